package tests

import (
	"fmt"
	"hash/crc32"
	"math"
	"slices"
	"strconv"
	"strings"
	"testing"
	"unsafe"

	"loop.example/hubbub/impl"
)

// The limits are the document's: other tests take them by name.
func TestJournalNumbers(t *testing.T) {
	if impl.LogMax != 120 || impl.JourMax != 30000 {
		t.Error(impl.LogMax, impl.JourMax)
	}
}

func TestP38ASumIsTheOneThatAllKnow(t *testing.T) {
	for s, want := range map[string]int{"": 0, "123456789": 3421780262, "a": 3904355907, "\x00": 3523407757, "\xff": 4278190080, "The quick brown fox jumps over the lazy dog": 1095738169} {
		if got := impl.Crc(s); got != want {
			t.Errorf("Crc(%q) is %d, not %d", s, got, want)
		}
	}
	d := newDice()
	for range 3000 {
		text := make([]byte, d.IntN(80))
		for i := range text {
			text[i] = byte(d.IntN(256))
		}
		got := impl.Crc(string(text))
		if got != int(crc32.ChecksumIEEE(text)) || got < 0 || got > 4294967295 {
			t.Fatalf("Crc(%q) is %d", text, got)
		}
	}
	if long := strings.Repeat("\xa5x", 20000); impl.Crc(long) != int(crc32.ChecksumIEEE([]byte(long))) {
		t.Error("of a long text")
	}
}

func TestP38AnotherByteHasAnotherSum(t *testing.T) {
	for _, s := range []string{"", "a", "123456789", "\xff\xff\xff\xff", strings.Repeat("x", 100)} {
		seen := map[int]int{}
		for b := range 256 {
			seen[impl.Crc(s+string([]byte{byte(b)}))]++
		}
		if len(seen) != 256 {
			t.Errorf("behind %q there are %d sums of 256 bytes", s, len(seen))
		}
	}
}

// writtenEntries is an entry of each kind, and how it is written.
var writtenEntries = []struct {
	e    impl.Entry
	text string
}{
	{impl.Entry{Room: "den", Seq: 0, Kind: 6, User: "ann", Num: 4}, `0|6|den|ann|||||4`},
	{impl.Entry{Room: "d-._0", Seq: 9998, Kind: 6, User: "abcdefgh", Num: 0}, `9998|6|d-._0|abcdefgh|||||0`},
	{impl.Entry{Room: "den", Seq: 1, Kind: 1, User: "ann", Nick: "Ann", Num: 3}, `1|1|den|ann|Ann||||3`},
	{impl.Entry{Room: "den", Seq: 1, Kind: 1, User: "ann", Nick: `|`, Num: 1}, `1|1|den|ann|\|||||1`},
	{impl.Entry{Room: "den", Seq: 10, Kind: 2, User: "bob", Nick: `\`, Num: 3}, `10|2|den|bob|\\||||3`},
	{impl.Entry{Room: "den", Seq: 10, Kind: 2, User: "bob", Nick: `B b`}, `10|2|den|bob|B b||||0`},
	{impl.Entry{Room: "den", Seq: 2, Kind: 3, User: "ann", Nick: "Ann", Text: "hi", Id: "m1"}, `2|3|den|ann|Ann|hi|m1||0`},
	{impl.Entry{Room: "den", Seq: 2, Kind: 3, User: "ann", Nick: `a|\b`, Text: `\|`, Id: `|m|`, Ref: `\\`}, `2|3|den|ann|a\|\\b|\\\||\|m\||\\\\|0`},
	{impl.Entry{Room: "den", Seq: 2, Kind: 3, User: "ann", Nick: "é;'", Text: "\n<a>; \t", Id: "m;1", Ref: "1"}, "2|3|den|ann|é;'|\n<a>; \t|m;1|1|0"},
	{impl.Entry{Room: "den", Seq: 2, Kind: 3, User: "ann", Nick: "0", Text: " ", Id: "0", Ref: "0"}, `2|3|den|ann|0| |0|0|0`},
	{impl.Entry{Room: "den", Seq: 100, Kind: 4, User: "ann", Nick: "Ann", Text: `||`, Id: `\n`}, `100|4|den|ann|Ann|\|\||\\n||0`},
	{impl.Entry{Room: "den", Seq: 7, Kind: 5, User: "cyd", Nick: `C\`, Num: 2}, `7|5|den|cyd|C\\||||2`},
	{
		impl.Entry{Room: "abcdefgh", Seq: 9998, Kind: 3, User: "12345678", Nick: strings.Repeat("|", 10), Text: strings.Repeat(`\`, 60), Id: strings.Repeat("|", 12), Ref: strings.Repeat(`\`, 12)},
		`9998|3|abcdefgh|12345678|` + strings.Repeat(`\|`, 10) + "|" + strings.Repeat(`\\`, 60) + "|" + strings.Repeat(`\|`, 12) + "|" + strings.Repeat(`\\`, 12) + "|0",
	},
}

func TestEntryIsWritten(t *testing.T) {
	for _, c := range writtenEntries {
		if got := impl.EntryPut(c.e); got != c.text {
			t.Errorf("EntryPut(%+v) is %q, not %q", c.e, got, c.text)
		}
		if e, ok := impl.EntryGet(c.text); !ok || e != c.e {
			t.Errorf("EntryGet(%q) is %+v, %v", c.text, e, ok)
		}
	}
}

func checkNoEntry(t *testing.T, text string) {
	t.Helper()
	if e, ok := impl.EntryGet(text); ok || e != (impl.Entry{}) {
		t.Errorf("EntryGet(%q) is %+v, %v", text, e, ok)
	}
}

// Texts that are nearly what is written.
func TestEntryIsNotRead(t *testing.T) {
	for _, text := range []string{
		"", "|", "||||||||", "0", " ", `\`, "0||||||||0", "2|3|den|ann|Ann|hi|m1||0;", "2|3|den|ann|Ann|hi|m1||0\n", " 2|3|den|ann|Ann|hi|m1||0",
		// Numbers that are not written so, or too great.
		"02|3|den|ann|Ann|hi|m1||0", "+2|3|den|ann|Ann|hi|m1||0", "-0|3|den|ann|Ann|hi|m1||0", "00|3|den|ann|Ann|hi|m1||0", "2 |3|den|ann|Ann|hi|m1||0", "0x2|3|den|ann|Ann|hi|m1||0", "|3|den|ann|Ann|hi|m1||0", "-1|3|den|ann|Ann|hi|m1||0", "9999|3|den|ann|Ann|hi|m1||0", "18446744073709551618|3|den|ann|Ann|hi|m1||0", "2_0|3|den|ann|Ann|hi|m1||0", "2.0|3|den|ann|Ann|hi|m1||0", "a|3|den|ann|Ann|hi|m1||0",
		"2|03|den|ann|Ann|hi|m1||0", "2|+3|den|ann|Ann|hi|m1||0", "2||den|ann|Ann|hi|m1||0", "2|0|den|ann|Ann|hi|m1||0", "2|7|den|ann|Ann|hi|m1||0", "2|-3|den|ann|Ann|hi|m1||0",
		"2|3|den|ann|Ann|hi|m1||00", "2|3|den|ann|Ann|hi|m1||", "2|3|den|ann|Ann|hi|m1||1", "2|3|den|ann|Ann|hi|m1||-0", "2|3|den|ann|Ann|hi|m1||x", "1|1|den|ann|Ann||||03", "1|1|den|ann|Ann||||4", "1|1|den|ann|Ann||||0", "1|2|den|ann|Ann||||4", "1|6|den|ann|||||5", "1|6|den|ann|||||-1",
		// Backslashes ahead of another sign, at the end, or none where one must be.
		`2|3|den|ann|\Ann|hi|m1||0`, `2|3|den|ann|Ann|h\i|m1||0`, `2|3|den|ann|Ann|hi|\m1||0`, `2|3|den|ann|Ann|hi|m1|\r|0`, `2|3|\den|ann|Ann|hi|m1||0`, `2|3|den|a\nn|Ann|hi|m1||0`, `\2|3|den|ann|Ann|hi|m1||0`, `2|3|den|ann|Ann|hi|m1||\0`, `2|\3|den|ann|Ann|hi|m1||0`,
		`2|3|den|ann|Ann|hi|m1||0\`, `2|3|den|ann|Ann|hi|m1||\`, `2|3|den|ann|Ann|hi\|m1||0`, `2|3|den|ann|Ann|hi|m1\||0`, `2|3|den|ann|Ann|h|i|m1||0`, `2|3|den|ann|A|nn|hi|m1||0`, `2|3|den|ann|Ann|h\\\i|m1||0`, `2|3|den|ann|Ann|hi\\\|m1||0`,
		// One bar more or less.
		"2|3|den|ann|Ann|hi|m1|0", "2|3|den|ann|Ann|hi|m1|||0", "2|3|den|ann|Ann|hi|m1||0|", "|2|3|den|ann|Ann|hi|m1||0", "0|6|den|ann||||4", "0|6|den|ann||||||4", "2|3|den|ann|Ann|him1||0", "23|den|ann|Ann|hi|m1||0",
		// Things that the kind does not have, or has.
		"0|6|den|ann|Ann||||4", "0|6|den|ann||x|||4", "0|6|den|ann|||x||4", "0|6|den|ann||||x|4", "0|6||ann|||||4", "0|6|den||||||4", "1|1|den|ann|||||3", "1|1|den|ann|Ann|x|||3", "2|3|den|ann|Ann||m1||0", "2|3|den|ann|Ann|hi|||0", "2|4|den|ann|Ann|hi|m1|m0|0", "2|5|den|ann|Ann|||x|1",
		// What cannot be a user, a nick, a body or a word.
		"0|6|Den|ann|||||4", "0|6|abcdefghi|ann|||||4", "0|6|den|Ann|||||4", "0|6|den|ann |||||4", "1|1|den|ann| Ann||||3", "1|1|den|ann|12345678901||||3", `1|1|den|ann|\|\|\|\|\|\|\|\|\|\|\|||||3`, "2|3|den|ann|Ann|\x00|m1||0", "2|3|den|ann|Ann|\xff|m1||0", "2|3|den|ann|Ann|hi|m 1||0", "2|3|den|ann|Ann|hi|m1|é|0", "2|3|den|ann|Ann|hi|1234567890123||0",
		"2|3|den|ann|Ann|" + strings.Repeat("x", 61) + "|m1||0",
		strings.Repeat("9", 1000), strings.Repeat("|", 1000), strings.Repeat(`\`, 1000),
	} {
		checkNoEntry(t, text)
	}
}

// marked is up to so many pieces, bars and backslashes among them, that a word can have.
func (d dice) marked(most int) string {
	return d.pick([]string{"|", `\`, "a", "0", ";", `\|`, "m"}, most)
}

// barredEntry is an entry that is ok, of any kind.
func (d dice) barredEntry() impl.Entry {
	e := entryCases[d.IntN(6)]
	e.Seq = []int{0, 1, 9, 10, 9998, d.IntN(9999)}[d.IntN(6)]
	e.Room, e.User = someUsers[d.IntN(len(someUsers))], someUsers[d.IntN(len(someUsers))]
	if e.Nick != "" {
		e.Nick = "n" + d.marked(4)
	}
	if e.Text != "" {
		e.Text, e.Id = "t"+d.marked(20), "i"+d.marked(5)
	}
	if e.Ref != "" {
		e.Ref = d.marked(6)
	}
	return e
}

// written is how an entry is to be written.
func written(e impl.Entry) string {
	mark := strings.NewReplacer("|", `\|`, `\`, `\\`)
	return fmt.Sprintf("%d|%d|%s|%s|%s|%s|%s|%s|%d", e.Seq, e.Kind, e.Room, e.User, mark.Replace(e.Nick), mark.Replace(e.Text), mark.Replace(e.Id), mark.Replace(e.Ref), e.Num)
}

func TestP31AnEntryIsReadBack(t *testing.T) {
	d := newDice()
	ok, wrong := 0, 0
	for range 20000 {
		e := d.barredEntry()
		switch d.IntN(6) {
		case 0:
			*entryField(&e, d.IntN(6)) = []string{"", "x", "|", `\`, "\x00", " ", strings.Repeat("y", 13)}[d.IntN(7)]
		case 1:
			e.Num = d.IntN(8) - 2
		case 2:
			e.Kind = d.IntN(9) - 1
		case 3:
			e.Seq = []int{-1, 9999, math.MinInt, math.MaxInt}[d.IntN(4)]
		}
		text := impl.EntryPut(e)
		if impl.EntryOk(e) != (text != "") {
			t.Fatalf("EntryPut(%+v) is %q", e, text)
		}
		if text == "" {
			wrong++
			continue
		}
		ok++
		if got, read := impl.EntryGet(text); !read || got != e || text != written(e) {
			t.Fatalf("EntryGet(%q), of %+v, is %+v, %v", text, e, got, read)
		}
	}
	if ok < 5000 || wrong < 5000 {
		t.Error(ok, wrong)
	}
}

// scratched is a text with some bytes taken out, put in or changed.
func (d dice) scratched(text string) string {
	return d.scratchedBy(text, "|\\0123 ;am\xff")
}

// scratchedBy takes what it puts in from some bytes.
func (d dice) scratchedBy(text, bytes string) string {
	s := []byte(text)
	for range 1 + d.IntN(2) {
		at, b := d.IntN(len(s)+1), bytes[d.IntN(len(bytes))]
		switch d.IntN(3) {
		case 0:
			s = slices.Insert(s, at, b)
		case 1:
			s = slices.Delete(s, at, min(at+1, len(s)))
		case 2:
			if at < len(s) {
				s[at] = b
			}
		}
	}
	return string(s)
}

func TestP32WhatIsReadIsWrittenJustSo(t *testing.T) {
	d := newDice()
	read, not := 0, 0
	for range 20000 {
		text := d.scratched(written(d.barredEntry()))
		e, ok := impl.EntryGet(text)
		if !ok {
			not++
			checkNoEntry(t, text)
			continue
		}
		read++
		if !impl.EntryOk(e) || impl.EntryPut(e) != text || written(e) != text {
			t.Fatalf("EntryGet(%q) is %+v", text, e)
		}
	}
	if read < 2000 || not < 2000 {
		t.Error(read, not)
	}
}

// record is how a text stands in a journal.
func record(text string) string {
	return fmt.Sprintf("%d %d %s;", len(text), crc32.ChecksumIEEE([]byte(text)), text)
}

func journalOf(list ...impl.Entry) string {
	var out strings.Builder
	for _, e := range list {
		out.WriteString(record(written(e)))
	}
	return out.String()
}

// story is so many entries that happen in three rooms, in the order of each.
func (d dice) story(many int) []impl.Entry {
	rooms := []impl.Room{{Name: "den"}, {Name: "hall"}, {Name: "x"}}
	var list []impl.Entry
	for len(list) < many {
		k := d.IntN(len(rooms))
		e := d.next(rooms[k])
		if after, ok := impl.RoomApply(rooms[k], e); ok {
			rooms[k], list = after, append(list, e)
		}
	}
	return list
}

// next is an entry that may be the next of a room, with bars and backslashes in its texts.
func (d dice) next(r impl.Room) impl.Entry {
	e := d.entry(r)
	if r.Next == 0 && d.IntN(4) > 0 {
		return impl.Entry{Room: r.Name, Kind: impl.EntryRank, User: e.User, Num: impl.RankOwner}
	}
	if e.Kind == impl.EntryJoin && d.IntN(2) == 0 {
		e.Nick = "n" + d.marked(4)
	}
	if e.Text != "" && e.Id != "" {
		e.Text, e.Id = "t"+d.marked(20), "i"+d.marked(5)
	}
	if e.Kind == impl.EntryTalk && e.Ref == "" {
		e.Ref = d.marked(5)
	}
	return e
}

// left is a room behind those of some entries that are of it.
func left(list []impl.Entry, name string) (impl.Room, bool) {
	r := impl.Room{Name: name}
	for _, e := range list {
		if e.Room == name {
			after, ok := impl.RoomApply(r, e)
			if !ok {
				return r, false
			}
			r = after
		}
	}
	return r, true
}

func checkRead(t *testing.T, j string, want []impl.Entry, size int) {
	t.Helper()
	if list, n := impl.JourRead(j); n != size || !slices.Equal(list, want) {
		t.Errorf("JourRead(%q) is %+v, %d, not %+v, %d", j, list, n, want, size)
	}
}

func checkNotAdded(t *testing.T, j string, e impl.Entry) {
	t.Helper()
	if got, ok := impl.JourAdd(j, e); ok || got != j {
		t.Errorf("JourAdd(%q, %+v) is %q, %v", j, e, got, ok)
	}
	for _, n := range []int{-1, 0, 1, 1000} {
		if got := impl.JourTear(j, e, n); got != j {
			t.Errorf("JourTear(%q, %+v, %d) is %q", j, e, n, got)
		}
	}
}

// tale is a short journal of two rooms, with bars and backslashes.
func tale() []impl.Entry {
	return []impl.Entry{
		{Room: "den", Seq: 0, Kind: 6, User: "ann", Num: 4},
		{Room: "den", Seq: 1, Kind: 1, User: "ann", Nick: `A|\`, Num: 3},
		{Room: "hall", Seq: 0, Kind: 6, User: "bob", Num: 4},
		{Room: "den", Seq: 2, Kind: 3, User: "ann", Nick: `A|\`, Text: `a|b\; 1 0 `, Id: `|`, Ref: `\`},
		{Room: "hall", Seq: 1, Kind: 1, User: "ann", Nick: "N", Num: 2},
		{Room: "den", Seq: 3, Kind: 4, User: "ann", Nick: `A|\`, Text: "\n;", Id: "m"},
		{Room: "hall", Seq: 2, Kind: 2, User: "ann", Nick: "N", Num: 3},
	}
}

func TestJournalIsRead(t *testing.T) {
	checkRead(t, "", nil, 0)
	first := `17 4261184165 0|6|den|ann|||||4;`
	if journalOf(tale()[:1]...) != first {
		t.Fatal(journalOf(tale()[:1]...))
	}
	checkRead(t, first, tale()[:1], len(first))
	for i := range len(tale()) + 1 {
		j := journalOf(tale()[:i]...)
		checkRead(t, j, tale()[:i], len(j))
	}
}

// Records that are nearly whole: nothing of them or behind them is read, all that is ahead is.
func TestRecordIsNotRead(t *testing.T) {
	ahead, text := journalOf(tale()[:2]...), written(tale()[2])
	size, sum := strconv.Itoa(len(text)), strconv.Itoa(impl.Crc(text))
	good := size + " " + sum + " " + text + ";"
	checkRead(t, ahead+good, tale()[:3], len(ahead+good))
	for _, bad := range []string{
		"", ";", " ", "  ", "0 0 ;", "00 0 ;", "-1 0 ;", "1 ", " 1", "x", "17", "\xff",
		"0" + good, "+" + good, "-" + good, " " + good, "\n" + good, ";" + good, "0x" + good,
		size + " 0" + sum + " " + text + ";", size + " +" + sum + " " + text + ";", size + " -" + sum + " " + text + ";", size + "  " + sum + " " + text + ";", size + " " + sum + "  " + text + ";", size + "\t" + sum + " " + text + ";", size + " " + sum + "\n" + text + ";",
		size + " " + text + ";", sum + " " + text + ";", text + ";", size + " " + sum + " " + text, size + " " + sum + " " + text + " ;", size + " " + sum + " " + text + "!", size + " " + sum + " ;" + text,
		strconv.Itoa(len(text)+1) + " " + sum + " " + text + ";", strconv.Itoa(len(text)-1) + " " + sum + " " + text + ";", strconv.Itoa(len(text)+1) + " " + sum + " " + text + ";;",
		size + " " + strconv.Itoa(impl.Crc(text)+1) + " " + text + ";", size + " " + strconv.Itoa(impl.Crc(text)+1<<32) + " " + text + ";", size + " 0 " + text + ";", size + "  " + text + ";",
		"99999999999999999999 " + sum + " " + text + ";", "9223372036854775807 " + sum + " " + text + ";", "30000 " + sum + " " + text + ";", "0 " + sum + " " + text + ";", "18446744073709551633 " + sum + " " + text + ";",
		// Whole, but no entry.
		record(""), record("x"), record(text + " "), record("0" + text), record(text[1:]), record(text + "|"), record(`0|6|den|ann|||||5`), record(`0|7|hall|bob|||||4`), record(`00|6|hall|bob|||||4`),
	} {
		checkRead(t, bad, nil, 0)
		checkRead(t, ahead+bad, tale()[:2], len(ahead))
		if bad != "" {
			checkRead(t, ahead+bad+good, tale()[:2], len(ahead))
			checkNotAdded(t, ahead+bad, tale()[2])
		}
	}
}

// What cannot be the next of its room ends a journal, though it is whole.
func TestWhatCannotBeNextIsNotRead(t *testing.T) {
	for _, e := range []impl.Entry{
		{Room: "den", Seq: 0, Kind: 6, User: "ann", Num: 4},
		{Room: "den", Seq: 1, Kind: 6, User: "bob", Num: 4},
		{Room: "den", Seq: 3, Kind: 6, User: "bob", Num: 4},
		{Room: "den", Seq: 2, Kind: 1, User: "ann", Nick: "B", Num: 2},
		{Room: "den", Seq: 2, Kind: 1, User: "bob", Nick: `A|\`, Num: 2},
		{Room: "den", Seq: 2, Kind: 2, User: "ann", Nick: "A"},
		{Room: "den", Seq: 2, Kind: 3, User: "bob", Nick: "Bob", Text: "x", Id: "m"},
		{Room: "den", Seq: 2, Kind: 6, User: "ann", Num: 3},
		{Room: "hall", Seq: 0, Kind: 1, User: "ann", Nick: "A", Num: 3},
		{Room: "hall", Seq: 0, Kind: 6, User: "ann", Num: 3},
		{Room: "hall", Seq: 0, Kind: 6, User: "ann", Num: 1},
		{Room: "hall", Seq: 1, Kind: 6, User: "ann", Num: 4},
		{Room: "hall", Seq: 2, Kind: 6, User: "ann", Num: 4},
	} {
		j := journalOf(tale()[:2]...)
		checkRead(t, j+journalOf(e)+journalOf(tale()[2]), tale()[:2], len(j))
		checkNotAdded(t, j, e)
	}
	for _, e := range []impl.Entry{
		{}, {Room: "den", Seq: 2, Kind: 7, User: "ann"}, {Room: "den", Seq: 2, Kind: 6, User: "ann", Num: 5}, {Room: "Den", Seq: 0, Kind: 6, User: "ann", Num: 4}, {Room: "", Seq: 0, Kind: 6, User: "ann", Num: 4},
		{Room: "den", Seq: 2, Kind: 3, User: "ann", Nick: `A|\`, Text: "x", Id: "m", Num: 1}, {Room: "hall", Seq: 0, Kind: 6, User: "", Num: 4}, {Room: "hall", Seq: -1, Kind: 6, User: "ann", Num: 4},
	} {
		checkNotAdded(t, journalOf(tale()[:2]...), e)
		checkNotAdded(t, "", e)
	}
}

func TestP33WhatWasAddedIsReadBack(t *testing.T) {
	d := newDice()
	added, not := 0, 0
	for range 700 {
		list := d.story(d.IntN(30))
		j := journalOf(list...)
		r := impl.RoomOf(j, []string{"den", "hall", "x", "y"}[d.IntN(4)])
		e := d.next(r)
		after, can := impl.RoomApply(r, e)
		if e.Room != r.Name {
			continue
		}
		got, ok := impl.JourAdd(j, e)
		if ok != can {
			t.Fatalf("JourAdd(%q, %+v) is %v", j, e, ok)
		}
		if !ok {
			not++
			checkNotAdded(t, j, e)
			continue
		}
		added++
		if got != j+journalOf(e) {
			t.Fatalf("JourAdd(%q, %+v) is %q", j, e, got)
		}
		checkRead(t, got, append(list, e), len(got))
		if behind := impl.RoomOf(got, r.Name); !sameRoom(behind, after) {
			t.Fatalf("RoomOf(%q, %s) is %+v, not %+v", got, r.Name, behind, after)
		}
	}
	if added < 140 || not < 140 {
		t.Error(added, not)
	}
}

func TestP34AFallTakesNothingButWhatWasBeingAdded(t *testing.T) {
	d := newDice()
	tales := [][]impl.Entry{tale()}
	for range 30 {
		tales = append(tales, d.story(1+d.IntN(12)))
	}
	for _, list := range tales {
		for k := range list {
			j, whole, e := journalOf(list[:k]...), journalOf(list[:k+1]...), list[k]
			more := len(whole) - len(j)
			for n := -2; n < more+3; n++ {
				torn := impl.JourTear(j, e, n)
				if torn != whole[:len(j)+min(max(n, 0), more)] {
					t.Fatalf("JourTear(%q, %+v, %d) is %q", j, e, n, torn)
				}
				if n < more {
					checkRead(t, torn, list[:k], len(j))
				} else {
					checkRead(t, torn, list[:k+1], len(whole))
				}
			}
			if impl.JourTear(j, e, math.MinInt) != j || impl.JourTear(j, e, math.MaxInt) != whole {
				t.Fatalf("JourTear of %q, %+v", j, e)
			}
		}
	}
}

// What is torn off is lost for good: nothing is added behind it.
func TestNothingIsAddedToATornJournal(t *testing.T) {
	list := tale()
	for k := range list[:len(list)-1] {
		j := journalOf(list[:k]...)
		for n := 1; n < len(journalOf(list[k])); n++ {
			torn := impl.JourTear(j, list[k], n)
			checkNotAdded(t, torn, list[k])
			checkNotAdded(t, torn, list[k+1])
		}
	}
}

// ends is where each record of a journal ends.
func ends(list []impl.Entry) []int {
	var out []int
	for i := range list {
		out = append(out, len(journalOf(list[:i+1]...)))
	}
	return out
}

func TestP36WhatIsBehindAnotherByteIsNotRead(t *testing.T) {
	d := newDice()
	tales := [][]impl.Entry{tale(), d.story(120)}
	for range 12 {
		tales = append(tales, d.story(1+d.IntN(12)))
	}
	for _, list := range tales {
		j, ends := journalOf(list...), ends(list)
		for at := range j {
			whole := slices.IndexFunc(ends, func(end int) bool { return end > at })
			size := 0
			if whole > 0 {
				size = ends[whole-1]
			}
			for _, b := range []byte{255, j[at] ^ 1, '0', ' ', ';', '|'} {
				if len(list) == 120 && (b != 255 || d.IntN(10) > 0) || b == j[at] {
					continue
				}
				checkRead(t, j[:at]+string([]byte{b})+j[at+1:], list[:whole], size)
			}
		}
	}
}

// shuffled is records of a journal, some of them more than once, left out, moved or scratched.
func (d dice) shuffled(list []impl.Entry) string {
	list = slices.Clone(list)
	for range d.IntN(3) {
		at := d.IntN(len(list))
		switch d.IntN(3) {
		case 0:
			list = slices.Insert(list, at, list[d.IntN(len(list))])
		case 1:
			if len(list) > 1 {
				list = slices.Delete(list, at, at+1)
			}
		case 2:
			k := d.IntN(len(list))
			list[at], list[k] = list[k], list[at]
		}
	}
	j := journalOf(list...)
	if d.IntN(2) == 0 {
		j = d.scratched(j)
	}
	return j
}

func TestP35WhatIsReadIsInTheOrderOfEachRoom(t *testing.T) {
	d := newDice()
	all, some := 0, 0
	for range 600 {
		j := d.shuffled(d.story(1 + d.IntN(30)))
		list, n := impl.JourRead(j)
		if n == len(j) {
			all++
		} else if n > 0 {
			some++
		}
		if n > len(j) || len(list) > impl.LogMax || journalOf(list...) != j[:n] {
			t.Fatalf("JourRead(%q) is %+v, %d", j, list, n)
		}
		checkRead(t, j[:n], list, n)
		for i, e := range list {
			r, _ := left(list[:i], e.Room)
			if _, ok := impl.RoomApply(r, e); !ok || !impl.EntryOk(e) {
				t.Fatalf("JourRead(%q) has %+v behind %+v", j, e, r)
			}
			if !impl.RoomOk(impl.RoomOf(j, e.Room)) {
				t.Fatalf("RoomOf(%q, %s) is %+v", j, e.Room, impl.RoomOf(j, e.Room))
			}
		}
	}
	if all < 90 || some < 90 {
		t.Error(all, some)
	}
}

func TestP37ARoomIsWhatItsEntriesLeft(t *testing.T) {
	d := newDice()
	for range 200 {
		list := d.story(d.IntN(60))
		j := journalOf(list...)
		for _, name := range []string{"den", "hall", "x", "y", "abcdefgh"} {
			want, ok := left(list, name)
			if got := impl.RoomOf(j, name); !ok || !sameRoom(got, want) || !impl.RoomOk(got) {
				t.Fatalf("RoomOf(%q, %s) is %+v, not %+v", j, name, got, want)
			}
		}
	}
	for i := range len(tale()) + 1 {
		for _, tail := range []string{"", "x", "17 ", journalOf(tale()[0])} {
			want, _ := left(tale()[:i], "den")
			if i == 0 && tail == journalOf(tale()[0]) {
				want, _ = left(tale()[:1], "den")
			}
			if got := impl.RoomOf(journalOf(tale()[:i]...)+tail, "den"); !sameRoom(got, want) {
				t.Errorf("RoomOf of %d entries and %q is %+v, not %+v", i, tail, got, want)
			}
		}
	}
}

func TestRoomOfNoName(t *testing.T) {
	j := journalOf(tale()...)
	for _, name := range badUsers {
		if r := impl.RoomOf(j, name); !isNoRoom(r) {
			t.Errorf("RoomOf(%q) is %+v", name, r)
		}
	}
	for _, name := range goodUsers {
		if r := impl.RoomOf("", name); !sameRoom(r, impl.Room{Name: name}) {
			t.Errorf("RoomOf(%q) is %+v", name, r)
		}
	}
	if r := impl.RoomOf(j, ""); !isNoRoom(r) {
		t.Error(r)
	}
}

// talks is so many entries in one room, or in as many rooms as there are entries.
func talks(many int, rooms bool) []impl.Entry {
	list := []impl.Entry{{Room: "den", Kind: 6, User: "ann", Num: 4}, {Room: "den", Seq: 1, Kind: 1, User: "ann", Nick: strings.Repeat("|", 10), Num: 3}}
	for i := len(list); i < many; i++ {
		if rooms {
			list = append(list, impl.Entry{Room: "r" + strconv.Itoa(i), Kind: 6, User: "ann", Num: 4})
			continue
		}
		list = append(list, impl.Entry{Room: "den", Seq: i, Kind: 3, User: "ann", Nick: strings.Repeat("|", 10), Text: strings.Repeat("|", 60), Id: strings.Repeat(`\`, 12), Ref: strings.Repeat(`\`, 12)})
	}
	return list
}

func TestJournalWithLogMaxEntries(t *testing.T) {
	d := newDice()
	for _, list := range [][]impl.Entry{talks(122, false), talks(122, true), d.story(122)} {
		full := journalOf(list[:120]...)
		checkRead(t, full, list[:120], len(full))
		checkRead(t, journalOf(list[:121]...), list[:120], len(full))
		checkRead(t, journalOf(list...), list[:120], len(full))
		if j, ok := impl.JourAdd(journalOf(list[:119]...), list[119]); !ok || j != full {
			t.Errorf("JourAdd of the last entry is %v", ok)
		}
		checkNotAdded(t, full, list[120])
		checkNotAdded(t, journalOf(list[:121]...), list[121])
		want, _ := left(list[:120], "den")
		if got := impl.RoomOf(journalOf(list...), "den"); !sameRoom(got, want) {
			t.Errorf("RoomOf is %+v, not %+v", got, want)
		}
	}
}

func TestJournalWithJourMaxBytes(t *testing.T) {
	for _, list := range [][]impl.Entry{nil, tale(), talks(120, false)} {
		j := journalOf(list...)
		most := j + strings.Repeat("x", 30000-len(j))
		checkRead(t, most, list, len(j))
		checkRead(t, most+"x", nil, 0)
		checkRead(t, j+strings.Repeat(" ", 100000), nil, 0)
		want, _ := left(list, "den")
		if got := impl.RoomOf(most, "den"); !sameRoom(got, want) {
			t.Errorf("RoomOf is %+v, not %+v", got, want)
		}
		if got := impl.RoomOf(most+"x", "den"); !sameRoom(got, impl.Room{Name: "den"}) {
			t.Errorf("RoomOf is %+v", got)
		}
		e := impl.Entry{Room: "attic", Kind: 6, User: "ann", Num: 4}
		checkNotAdded(t, most, e)
		checkNotAdded(t, most+"x", e)
	}
}

// liesIn says whether a text lies within another one's memory.
func liesIn(part, whole string) bool {
	if part == "" || whole == "" {
		return false
	}
	a, b := uintptr(unsafe.Pointer(unsafe.StringData(part))), uintptr(unsafe.Pointer(unsafe.StringData(whole)))
	return b <= a && a < b+uintptr(len(whole))
}

func checkOwn(t *testing.T, whole string, parts ...string) {
	t.Helper()
	for _, part := range parts {
		if liesIn(part, whole) {
			t.Errorf("%q lies in %q", part, whole)
		}
	}
}

func TestJournalSharesNoMemory(t *testing.T) {
	j := journalOf(tale()...)
	list, _ := impl.JourRead(j)
	checkOwn(t, j, textsOfEntries(list...)...)
	checkOwn(t, j, textsOfRoom(impl.RoomOf(j, "den"))...)
	name := strings.Clone("attic")
	checkOwn(t, name, impl.RoomOf(j, name).Name)
	for _, c := range writtenEntries {
		text := strings.Clone(c.text)
		e, _ := impl.EntryGet(text)
		checkOwn(t, text, textsOfEntries(e)...)
	}
	e := impl.Entry{Room: "den", Seq: 4, Kind: 6, User: "bob", Num: 2}
	for _, e := range []impl.Entry{e, {}} {
		added, _ := impl.JourAdd(j, e)
		checkOwn(t, j, added, impl.JourTear(j, e, 0), impl.JourTear(j, e, 5))
	}
	for i := range list[:cap(list)] {
		list[:cap(list)][i] = impl.Entry{Room: "changed"}
	}
	checkRead(t, j, tale(), len(j))
}
