package tests

import (
	"fmt"
	"hash/crc32"
	"math"
	"slices"
	"strconv"
	"strings"
	"testing"

	"loop.example/hubbub/impl"
)

// ownedRoom is a room with an owner alone.
func ownedRoom(name string, next int) impl.Room {
	return impl.Room{Name: name, Next: next, Ranks: []impl.Rank{{User: "ann", Num: 4}}}
}

// fullRoom is a room of which each thing is as long as it can be, and as often as it can be there.
func fullRoom() impl.Room {
	r := impl.Room{Name: "abcdefgh", Next: 9999, Subject: strings.Repeat(`\`, 60)}
	for i := range 5 {
		r.Members = append(r.Members, impl.Member{User: "userabc" + strconv.Itoa(i), Nick: strings.Repeat("|", 9) + strconv.Itoa(i), Role: 1 + i%3})
	}
	for i := range 6 {
		r.Ranks = append(r.Ranks, impl.Rank{User: "rankabc" + strconv.Itoa(i), Num: []int{4, 0, 2, 3, 4, 0}[i]})
	}
	return r
}

var writtenRooms = []struct {
	r    impl.Room
	text string
}{
	{impl.Room{Name: "den"}, `den|0||0`},
	{impl.Room{Name: "d-._0abc"}, `d-._0abc|0||0`},
	{ownedRoom("den", 1), `den|1||0|ann|4`},
	{ownedRoom("0", 0), `0|0||0|ann|4`},
	{ownedRoom("1", 9999), `1|9999||0|ann|4`},
	{den(), `den|20|ours|4|ann|Ann|3|bob|Bob|3|cyd|Cyd|2|dan|Dan|1|ann|4|bob|3|cyd|2|eve|0`},
	{withRoom(func(r *impl.Room) { r.Members = nil }), `den|20|ours|0|ann|4|bob|3|cyd|2|eve|0`},
	{withRoom(func(r *impl.Room) { r.Subject = `|` }), `den|20|\||4|ann|Ann|3|bob|Bob|3|cyd|Cyd|2|dan|Dan|1|ann|4|bob|3|cyd|2|eve|0`},
	{withRoom(func(r *impl.Room) { r.Subject, r.Members = `\`, nil }), `den|20|\\|0|ann|4|bob|3|cyd|2|eve|0`},
	{withRoom(func(r *impl.Room) { r.Subject, r.Members = "\n0|1\\|; !\t", nil }), "den|20|\n0\\|1\\\\\\|; !\t|0|ann|4|bob|3|cyd|2|eve|0"},
	{withRoom(func(r *impl.Room) { r.Subject, r.Members = "0", nil }), `den|20|0|0|ann|4|bob|3|cyd|2|eve|0`},
	{with1Member("ann", `|`, 1), `den|1||1|ann|\||1|zoe|4`},
	{with1Member("ann", `\`, 2), `den|1||1|ann|\\|2|zoe|4`},
	{with1Member("0", `a|\b`, 3), `den|1||1|0|a\|\\b|3|zoe|4`},
	{with1Member("ann", "1", 1), `den|1||1|ann|1|1|zoe|4`},
	{with1Member("ann", `é;'`, 3), `den|1||1|ann|é;'|3|zoe|4`},
	{
		fullRoom(),
		`abcdefgh|9999|` + strings.Repeat(`\\`, 60) + `|5|userabc0|\|\|\|\|\|\|\|\|\|0|1|userabc1|\|\|\|\|\|\|\|\|\|1|2|userabc2|\|\|\|\|\|\|\|\|\|2|3|userabc3|\|\|\|\|\|\|\|\|\|3|1|userabc4|\|\|\|\|\|\|\|\|\|4|2` +
			`|rankabc0|4|rankabc1|0|rankabc2|2|rankabc3|3|rankabc4|4|rankabc5|0`,
	},
}

func TestRoomIsWritten(t *testing.T) {
	for _, c := range writtenRooms {
		if got := impl.RoomPut(c.r); got != c.text {
			t.Errorf("RoomPut(%+v) is %q, not %q", c.r, got, c.text)
		}
		if r, ok := impl.RoomGet(c.text); !ok || !sameRoom(r, c.r) {
			t.Errorf("RoomGet(%q) is %+v, %v", c.text, r, ok)
		}
	}
	for _, r := range roomsOk() {
		text := impl.RoomPut(r)
		if got, ok := impl.RoomGet(text); text != roomWritten(r) || !ok || !sameRoom(got, r) {
			t.Errorf("RoomGet(%q), of %+v, is %+v, %v", text, r, got, ok)
		}
	}
	for _, r := range roomsNotOk() {
		if text := impl.RoomPut(r); text != "" {
			t.Errorf("RoomPut(%+v) is %q", r, text)
		}
		checkNoRoom(t, roomWritten(r))
	}
}

// roomWritten is how a room is to be written.
func roomWritten(r impl.Room) string {
	mark := strings.NewReplacer("|", `\|`, `\`, `\\`)
	text := fmt.Sprintf("%s|%d|%s|%d", r.Name, r.Next, mark.Replace(r.Subject), len(r.Members))
	for _, m := range r.Members {
		text += fmt.Sprintf("|%s|%s|%d", m.User, mark.Replace(m.Nick), m.Role)
	}
	for _, k := range r.Ranks {
		text += fmt.Sprintf("|%s|%d", k.User, k.Num)
	}
	return text
}

func checkNoRoom(t *testing.T, text string) {
	t.Helper()
	if r, ok := impl.RoomGet(text); ok || !isNoRoom(r) {
		t.Errorf("RoomGet(%.200q) is %+v, %v", text, r, ok)
	}
}

// Texts that are nearly what is written.
func TestRoomIsNotRead(t *testing.T) {
	if _, ok := impl.RoomGet(`den|9|a\|b|1|ann|A|3|ann|4|bob|0`); !ok {
		t.Fatal("the room of which these are made is none")
	}
	for _, text := range []string{
		"", "|", "||", "|||", "|0||0", "den", "den|0", "den|0|", "den|0||", "den|0||0|", "|den|0||0", "den|0||0\n", " den|0||0", "den|0||0;", "den|0||0!", "den|0|0",
		// Numbers that are not written so, too great, or none.
		`den|09|a\|b|1|ann|A|3|ann|4|bob|0`, `den|+9|a\|b|1|ann|A|3|ann|4|bob|0`, `den|-9|a\|b|1|ann|A|3|ann|4|bob|0`, `den|9 |a\|b|1|ann|A|3|ann|4|bob|0`, `den||a\|b|1|ann|A|3|ann|4|bob|0`, `den|x|a\|b|1|ann|A|3|ann|4|bob|0`, `den|10000|a\|b|1|ann|A|3|ann|4|bob|0`, `den|18446744073709551625|a\|b|1|ann|A|3|ann|4|bob|0`, `den|9_0|a\|b|1|ann|A|3|ann|4|bob|0`,
		`den|9|a\|b|01|ann|A|3|ann|4|bob|0`, `den|9|a\|b|+1|ann|A|3|ann|4|bob|0`, `den|9|a\|b||ann|A|3|ann|4|bob|0`, `den|9|a\|b|x|ann|A|3|ann|4|bob|0`, `den|9|a\|b|-1|ann|A|3|ann|4|bob|0`, `den|9|a\|b|18446744073709551617|ann|A|3|ann|4|bob|0`, `den|9|a\|b|9223372036854775807|ann|A|3|ann|4|bob|0`, `den|9|a\|b|-9223372036854775808|ann|A|3|ann|4|bob|0`, `den|9|a\|b|6148914691236517206|ann|A|3|ann|4|bob|0`,
		`den|9|a\|b|1|ann|A|03|ann|4|bob|0`, `den|9|a\|b|1|ann|A||ann|4|bob|0`, `den|9|a\|b|1|ann|A|0|ann|4|bob|0`, `den|9|a\|b|1|ann|A|4|ann|4|bob|0`, `den|9|a\|b|1|ann|A|x|ann|4|bob|0`,
		`den|9|a\|b|1|ann|A|3|ann|04|bob|0`, `den|9|a\|b|1|ann|A|3|ann|4|bob|`, `den|9|a\|b|1|ann|A|3|ann|4|bob|00`, `den|9|a\|b|1|ann|A|3|ann|4|bob|-0`, `den|9|a\|b|1|ann|A|3|ann|4|bob|1`, `den|9|a\|b|1|ann|A|3|ann|4|bob|5`, `den|9|a\|b|1|ann|A|3|ann|4|bob|x`,
		// One member more or less than is told.
		`den|9|a\|b|0|ann|A|3|ann|4|bob|0`, `den|9|a\|b|2|ann|A|3|ann|4|bob|0`, `den|9|a\|b|3|ann|A|3|ann|4|bob|0`, `den|9|a\|b|1|ann|4|bob|0`, `den|9|a\|b|1|ann|A|3|bob|B|3|ann|4|bob|0`, `den|9|a\|b|2|ann|A|3|cyd|C|3`, `den|9|a\|b|1|ann|A|3`, `den|9|a\|b|1|ann|A`, `den|9|a\|b|1|ann`, `den|9|a\|b|1`,
		// One bar more or less.
		`den|9|a\|b|1|ann|A|3|ann|4|bob|0|`, `den|9|a\|b|1|ann|A|3|ann|4|bob0`, `den|9|a\|b|1|ann|A|3|ann|4|bob`, `den|9|a\|b|1|ann|A|3|ann|4|`, `den|9|a\|b|1|ann|A|3|ann`, `den|9|a\|b|1|ann|A|3||ann|4|bob|0`, `den|9||a\|b|1|ann|A|3|ann|4|bob|0`, `den|9|a|b|1|ann|A|3|ann|4|bob|0`, `|den|9|a\|b|1|ann|A|3|ann|4|bob|0`, `den9|a\|b|1|ann|A|3|ann|4|bob|0`,
		// Backslashes ahead of another sign, at the end, or none where one must be.
		`\den|9|a\|b|1|ann|A|3|ann|4|bob|0`, `d\en|9|a\|b|1|ann|A|3|ann|4|bob|0`, `den|\9|a\|b|1|ann|A|3|ann|4|bob|0`, `den|9|\a\|b|1|ann|A|3|ann|4|bob|0`, `den|9|a\|\b|1|ann|A|3|ann|4|bob|0`, `den|9|a\\|b|1|ann|A|3|ann|4|bob|0`, `den|9|a\|b\|1|ann|A|3|ann|4|bob|0`, `den|9|a\|b|\1|ann|A|3|ann|4|bob|0`, `den|9|a\|b|1|\ann|A|3|ann|4|bob|0`, `den|9|a\|b|1|ann|\A|3|ann|4|bob|0`, `den|9|a\|b|1|ann|A\|3|ann|4|bob|0`, `den|9|a\|b|1|ann|A|\3|ann|4|bob|0`, `den|9|a\|b|1|ann|A|3|an\n|4|bob|0`, `den|9|a\|b|1|ann|A|3|ann|4|bob|\0`, `den|9|a\|b|1|ann|A|3|ann|4|bob|0\`, `den|9|a\|b|1|ann|A|3|ann|4|bob\|0`,
		// Written so, but no room.
		`Den|0||0`, `abcdefghi|0||0`, `den|1||0`, `den|0|x|0`, `den|0||1|ann|A|3`, `den|9|a\|b|1|ann|A|3|bob|0`, `den|9|a\|b|1|ann|A|3|bob|0|ann|4`, `den|9|a\|b|1|ann|A|3|ann|4|ann|4`, `den|9|a\|b|1|bob|A|3|ann|4|bob|0`, `den|9|a\|b|2|ann|A|3|ann|B|3|ann|4`, `den|9|a\|b|2|ann|A|3|bob|A|3|ann|4`, `den|9|a\|b|1|ann||3|ann|4|bob|0`, `den|9|a\|b|1||A|3|ann|4|bob|0`, `den|9|a\|b|1|ann|A|3||4|bob|0`, "den|9|\xff|0|ann|4", "den|9|\r|0|ann|4", `den|9|` + strings.Repeat("x", 61) + `|0|ann|4`, `den|9|` + strings.Repeat(`\|`, 61) + `|0|ann|4`,
		`den|9||6|a|A|1|b|B|1|c|C|1|d|D|1|e|E|1|f|F|1|ann|4`, `den|9||0|a|4|b|4|c|4|d|4|e|4|f|4|g|4`,
		written(tale()[0]), journalOf(tale()[0]), record(`den|0||0`), strings.Repeat("|", 100000), strings.Repeat(`\`, 100001), "den|9||0" + strings.Repeat("|ann|4", 50000), "den|9||50000" + strings.Repeat("|ann|A|4", 50000),
	} {
		checkNoRoom(t, text)
	}
}

// barredRoom is a room that is ok, with bars and backslashes in it.
func (d dice) barredRoom() impl.Room {
	r := d.room()
	if r.Subject != "" {
		r.Subject = "s" + d.marked(20)
	}
	for i := range r.Members {
		r.Members[i].Nick = strconv.Itoa(i) + d.marked(4)
	}
	return r
}

func TestP64ARoomIsReadBack(t *testing.T) {
	d := newDice()
	ok, wrong := 0, 0
	for range 20000 {
		r := d.barredRoom()
		if d.IntN(2) == 0 {
			r = brokenRoom(d, r)
		}
		text := impl.RoomPut(r)
		if (text != "") != impl.RoomOk(r) {
			t.Fatalf("RoomPut(%+v) is %q", r, text)
		}
		if text == "" {
			wrong++
			continue
		}
		ok++
		if got, read := impl.RoomGet(text); !read || !sameRoom(got, r) || text != roomWritten(r) {
			t.Fatalf("RoomGet(%q), of %+v, is %+v, %v", text, r, got, read)
		}
	}
	if ok < 5000 || wrong < 3000 {
		t.Error(ok, wrong)
	}
}

func TestP65WhatIsReadAsARoomIsWrittenJustSo(t *testing.T) {
	d := newDice()
	read, not := 0, 0
	for range 15000 {
		text := d.scratched(roomWritten(d.barredRoom()))
		r, ok := impl.RoomGet(text)
		if !ok {
			not++
			checkNoRoom(t, text)
			continue
		}
		read++
		if !impl.RoomOk(r) || impl.RoomPut(r) != text || roomWritten(r) != text {
			t.Fatalf("RoomGet(%q) is %+v", text, r)
		}
	}
	if read < 1500 || not < 1500 {
		t.Error(read, not)
	}
}

// packRecord is how a text stands in a pack for a room's entries.
func packRecord(text string) string {
	return fmt.Sprintf("%d %d %s!", len(text), crc32.ChecksumIEEE([]byte(text)), text)
}

// packText is rooms and entries, as they stand in a pack.
func packText(rooms []impl.Room, list []impl.Entry) string {
	var out strings.Builder
	for _, r := range rooms {
		out.WriteString(packRecord(roomWritten(r)))
	}
	return out.String() + journalOf(list...)
}

// roomsLeft is the rooms that entries left, in the order in which they began.
func roomsLeft(list []impl.Entry) []impl.Room {
	var names []string
	var rooms []impl.Room
	for _, e := range list {
		if !slices.Contains(names, e.Room) {
			names = append(names, e.Room)
		}
	}
	for _, name := range names {
		r, _ := left(list, name)
		rooms = append(rooms, r)
	}
	return rooms
}

func checkPackRead(t *testing.T, p string, rooms []impl.Room, list []impl.Entry, size int) {
	t.Helper()
	gotRooms, gotList, n := impl.PackRead(p)
	if n != size || !slices.EqualFunc(gotRooms, rooms, sameRoom) || !slices.Equal(gotList, list) {
		t.Errorf("PackRead(%.2000q) is\n%+v\n%+v\n%d, not\n%+v\n%+v\n%d", p, gotRooms, gotList, n, rooms, list, size)
	}
}

func checkNoPack(t *testing.T, j string, at int) {
	t.Helper()
	if p, ok := impl.PackMake(j, at); ok || p != "" {
		t.Errorf("PackMake(%.2000q, %d) is %.2000q, %v", j, at, p, ok)
	}
}

func TestPackIsMade(t *testing.T) {
	list := tale()
	j := journalOf(list...)
	denText, hallText := `den|4|`+"\n;"+`|1|ann|A\|\\|3|ann|4`, `hall|3||0|bob|4`
	for at, want := range map[int]string{
		0: j,
		1: packRecord(`den|1||0|ann|4`) + journalOf(list[1:]...),
		2: packRecord(`den|2||1|ann|A\|\\|3|ann|4`) + journalOf(list[2:]...),
		3: packRecord(`den|2||1|ann|A\|\\|3|ann|4`) + packRecord(`hall|1||0|bob|4`) + journalOf(list[3:]...),
		5: packRecord(`den|3||1|ann|A\|\\|3|ann|4`) + packRecord(`hall|2||1|ann|N|2|bob|4`) + journalOf(list[5:]...),
		6: packRecord(denText) + packRecord(`hall|2||1|ann|N|2|bob|4`) + journalOf(list[6]),
		7: packRecord(denText) + packRecord(hallText),
	} {
		if got, ok := impl.PackMake(j, at); !ok || got != want {
			t.Errorf("PackMake(.., %d) is %q, %v, not %q", at, got, ok, want)
		}
	}
	if p, ok := impl.PackMake(journalOf(list[:1]...), 1); !ok || p != `14 1129029826 den|1||0|ann|4!` {
		t.Error(p, ok)
	}
	if p, ok := impl.PackMake("", 0); !ok || p != "" {
		t.Error(p, ok)
	}
}

func TestPackIsNotMade(t *testing.T) {
	for i := range len(tale()) + 1 {
		j := journalOf(tale()[:i]...)
		for _, at := range []int{-1, -2, i + 1, i + 2, math.MinInt, math.MaxInt} {
			checkNoPack(t, j, at)
		}
		for at := range i + 1 {
			for _, tail := range []string{"x", ";", " ", "0 0 ;", journalOf(tale()[0])[1:], packRecord(roomWritten(ownedRoom("attic", 1))), journalOf(impl.Entry{Room: "den", Seq: 7, Kind: 6, User: "ann", Num: 4})} {
				checkNoPack(t, j+tail, at)
			}
			if i > 0 {
				checkNoPack(t, j[:len(j)-1], at)
				checkNoPack(t, "x"+j, at)
				p, _ := impl.PackMake(j, i)
				checkNoPack(t, p, at)
			}
		}
	}
	j := journalOf(tale()...)
	checkNoPack(t, j+strings.Repeat("x", 30000-len(j)), 1)
	checkNoPack(t, j+strings.Repeat("x", 30001-len(j)), 1)
	checkNoPack(t, strings.Repeat(" ", 100000), 0)
}

// packNames is the names of rooms by which a pack is asked, some of which it has not.
var packNames = []string{"den", "hall", "x", "y", "abcdefgh"}

func TestP66APackTellsTheSameRooms(t *testing.T) {
	d := newDice()
	for range 40 {
		list := d.story(d.IntN(40))
		j := journalOf(list...)
		for at := range len(list) + 1 {
			p, ok := impl.PackMake(j, at)
			rooms := roomsLeft(list[:at])
			if !ok || p != packText(rooms, list[at:]) {
				t.Fatalf("PackMake(%q, %d) is %q, %v", j, at, p, ok)
			}
			checkPackRead(t, p, rooms, list[at:], len(p))
			for _, name := range packNames {
				if got, want := impl.PackRoom(p, name), impl.RoomOf(j, name); !sameRoom(got, want) {
					t.Fatalf("PackRoom(%q, %s) is %+v, not %+v", p, name, got, want)
				}
			}
		}
	}
}

func TestP67PackedAsAWhole(t *testing.T) {
	d := newDice()
	for _, many := range []int{0, 1, 2, 10, 50, 119, 120} {
		list := d.story(many)
		j := journalOf(list...)
		if p, ok := impl.PackMake(j, 0); !ok || p != j {
			t.Errorf("PackMake(%q, 0) is %q, %v", j, p, ok)
		}
		p, ok := impl.PackMake(j, many)
		rooms, rest, n := impl.PackRead(p)
		if !ok || len(rest) > 0 || n != len(p) || !slices.EqualFunc(rooms, roomsLeft(list), sameRoom) || p != packText(rooms, nil) {
			t.Errorf("PackMake(%q, %d) is %q, %v", j, many, p, ok)
		}
		for i, r := range rooms {
			if slices.ContainsFunc(rooms[:i], func(x impl.Room) bool { return x.Name == r.Name }) {
				t.Errorf("%s is twice in %q", r.Name, p)
			}
		}
	}
}

func checkNotPacked(t *testing.T, p string, e impl.Entry) {
	t.Helper()
	if got, ok := impl.PackAdd(p, e); ok || got != p {
		t.Errorf("PackAdd(%.2000q, %+v) is %.2000q, %v", p, e, got, ok)
	}
}

func TestP68WhatIsAddedToAPack(t *testing.T) {
	d := newDice()
	added, not := 0, 0
	for range 700 {
		list := d.story(d.IntN(30))
		at := d.IntN(len(list) + 1)
		p, _ := impl.PackMake(journalOf(list...), at)
		r := impl.PackRoom(p, packNames[d.IntN(4)])
		e := d.next(r)
		if e.Room != r.Name {
			continue
		}
		after, can := impl.RoomApply(r, e)
		got, ok := impl.PackAdd(p, e)
		if ok != can {
			t.Fatalf("PackAdd(%q, %+v) is %v", p, e, ok)
		}
		if !ok {
			not++
			checkNotPacked(t, p, e)
			continue
		}
		added++
		if got != p+journalOf(e) {
			t.Fatalf("PackAdd(%q, %+v) is %q", p, e, got)
		}
		checkPackRead(t, got, roomsLeft(list[:at]), append(slices.Clone(list[at:]), e), len(got))
		if behind := impl.PackRoom(got, r.Name); !sameRoom(behind, after) {
			t.Fatalf("PackRoom(%q, %s) is %+v, not %+v", got, r.Name, behind, after)
		}
	}
	if added < 140 || not < 140 {
		t.Error(added, not)
	}
}

// packLeft is rooms as they are behind entries.
func packLeft(rooms []impl.Room, list []impl.Entry, name string) (impl.Room, bool) {
	r := impl.Room{Name: name}
	if at := slices.IndexFunc(rooms, func(x impl.Room) bool { return x.Name == name }); at >= 0 {
		r = rooms[at]
	}
	return applyAll(r, slices.DeleteFunc(slices.Clone(list), func(e impl.Entry) bool { return e.Room != name }))
}

// shuffledPack is records of a pack, some of them more than once, left out, moved or scratched.
func (d dice) shuffledPack() string {
	list := d.story(1 + d.IntN(30))
	at := d.IntN(len(list) + 1)
	var records []string
	for _, r := range roomsLeft(list[:at]) {
		records = append(records, packRecord(roomWritten(r)))
	}
	for _, e := range list[at:] {
		records = append(records, journalOf(e))
	}
	for range d.IntN(3) {
		k, i := d.IntN(len(records)), d.IntN(len(records))
		switch d.IntN(4) {
		case 0:
			records = slices.Insert(records, k, records[i])
		case 1:
			records[k], records[i] = records[i], records[k]
		case 2:
			records[k] = ""
		case 3:
			records[k] = packRecord(roomWritten(d.barredRoom()))
		}
	}
	p := strings.Join(records, "")
	if d.IntN(2) == 0 {
		p = d.scratchedBy(p, "|\\0123 ;!am\xff")
	}
	return p
}

func TestP69WhatIsReadOfAPack(t *testing.T) {
	d := newDice()
	all, some := 0, 0
	for range 1200 {
		p := d.shuffledPack()
		rooms, list, n := impl.PackRead(p)
		if n == len(p) {
			all++
		} else if n > 0 {
			some++
		}
		if n > len(p) || len(list) > 120 || len(rooms) > 120 || packText(rooms, list) != p[:n] {
			t.Fatalf("PackRead(%q) is %+v, %+v, %d", p, rooms, list, n)
		}
		checkPackRead(t, p[:n], rooms, list, n)
		for i, r := range rooms {
			twice := slices.ContainsFunc(rooms[:i], func(x impl.Room) bool { return x.Name == r.Name })
			if !impl.RoomOk(r) || r.Next == 0 || twice {
				t.Fatalf("PackRead(%q) has %+v", p, r)
			}
		}
		for i, e := range list {
			r, _ := packLeft(rooms, list[:i], e.Room)
			if _, ok := impl.RoomApply(r, e); !ok || !impl.EntryOk(e) {
				t.Fatalf("PackRead(%q) has %+v behind %+v", p, e, r)
			}
		}
		for _, name := range packNames {
			want, ok := packLeft(rooms, list, name)
			if got := impl.PackRoom(p, name); !ok || !sameRoom(got, want) || !impl.RoomOk(got) {
				t.Fatalf("PackRoom(%q, %s) is %+v, not %+v", p, name, got, want)
			}
		}
	}
	if all < 200 || some < 200 {
		t.Error(all, some)
	}
}

// Whatever byte of a pack is another one: what is behind is not read, all that is ahead is.
func TestPackWithAnotherByte(t *testing.T) {
	rooms, list := roomsLeft(tale()[:5]), tale()[5:]
	p := packText(rooms, list)
	var ends []int
	for i := range rooms {
		ends = append(ends, len(packText(rooms[:i+1], nil)))
	}
	for i := range list {
		ends = append(ends, len(packText(rooms, list[:i+1])))
	}
	for at := range p {
		whole, size := 0, 0
		for ends[whole] <= at {
			whole, size = whole+1, ends[whole]
		}
		k := min(whole, len(rooms))
		for _, b := range []byte{255, p[at] ^ 1, '0', ' ', ';', '!', '|'} {
			if b != p[at] {
				checkPackRead(t, p[:at]+string([]byte{b})+p[at+1:], rooms[:k], list[:whole-k], size)
			}
		}
		checkPackRead(t, p[:at], rooms[:k], list[:whole-k], size)
	}
}

// Records that are whole, but cannot stand where they do.
func TestPackIsNotReadBehind(t *testing.T) {
	rooms, list := roomsLeft(tale()[:5]), tale()[5:]
	ahead, p := packText(rooms, nil), packText(rooms, list)
	attic, text := ownedRoom("attic", 3), roomWritten(ownedRoom("attic", 3))
	checkPackRead(t, ahead+packRecord(text), append(slices.Clone(rooms), attic), nil, len(ahead+packRecord(text)))
	for _, bad := range []string{
		// A room of which there is one already, be it as it was or not; in which nothing happened; that is none.
		packText(rooms[:1], nil), packText(rooms[1:2], nil), packRecord(roomWritten(ownedRoom("den", 1))), packRecord(roomWritten(ownedRoom("hall", 9))),
		packRecord(`attic|0||0`), packRecord(roomWritten(ownedRoom("attic", 0))), packRecord(`attic|0|x|0|ann|4`), packRecord(`attic|3||0`), packRecord(`attic|03||0|ann|4`), packRecord(`Attic|3||0|ann|4`), packRecord(text + "|"), packRecord(""), packRecord("x"),
		// The end of the other, or of none; a sum or a size that is another one.
		record(text), strings.Replace(packRecord(text), "!", "?", 1), strings.Replace(packRecord(text), "!", "", 1), packRecord(written(list[0])), packRecord(text)[1:], "0" + packRecord(text), "+" + packRecord(text), " " + packRecord(text), strings.Replace(packRecord(text), " ", "  ", 1), strings.Replace(packRecord(text), " ", " 0", 1),
		fmt.Sprintf("%d %d %s!", len(text), impl.Crc(text)+1, text), fmt.Sprintf("%d %d %s!", len(text)-1, impl.Crc(text), text), fmt.Sprintf("%d %d %s!", len(text)+1, impl.Crc(text), text), fmt.Sprintf("%d %d %s!", len(text), impl.Crc(text+"!"), text),
		"0 0 !", "-1 0 !", "!", "1 ", "16", "0 0 ", "99999999999999999999 0 !",
		// Entries that cannot happen there.
		journalOf(tale()[0]), journalOf(tale()[4]), journalOf(impl.Entry{Room: "den", Seq: 4, Kind: 6, User: "bob", Num: 2}), journalOf(impl.Entry{Room: "attic", Seq: 3, Kind: 6, User: "ann", Num: 4}), journalOf(impl.Entry{Room: "attic", Kind: 6, User: "ann", Num: 3}),
	} {
		checkPackRead(t, ahead+bad, rooms, nil, len(ahead))
		checkPackRead(t, ahead+bad+journalOf(list...), rooms, nil, len(ahead))
		checkPackRead(t, ahead+bad+packRecord(text), rooms, nil, len(ahead))
		checkNotPacked(t, ahead+bad, list[0])
	}
	// No room stands behind an entry.
	for _, r := range []impl.Room{attic, rooms[0], rooms[1], {Name: "attic"}} {
		tail := packRecord(roomWritten(r))
		checkPackRead(t, p+tail, rooms, list, len(p))
		checkPackRead(t, p+tail+packRecord(text), rooms, list, len(p))
		checkPackRead(t, packText(nil, tale())+tail, nil, tale(), len(packText(nil, tale())))
		checkNotPacked(t, p+tail, impl.Entry{Room: "hall", Seq: 3, Kind: 6, User: "ann", Num: 4})
	}
}

// A pack goes on from its rooms: of one that it has from there, of any other from nothing on.
func TestPackGoesOnFromItsRooms(t *testing.T) {
	r := withRoom(func(r *impl.Room) { r.Next = 9997 })
	p := packText([]impl.Room{r, ownedRoom("hall", 1)}, nil)
	for _, e := range []impl.Entry{
		{Room: "den", Seq: 9997, Kind: 3, User: "dan", Nick: "Dan", Text: "x", Id: "m"},
		{Room: "attic", Seq: 0, Kind: 6, User: "ann", Num: 4},
		{Room: "den", Seq: 9998, Kind: 2, User: "dan", Nick: "Dan"},
		{Room: "attic", Seq: 1, Kind: 1, User: "dan", Nick: "Dan", Num: 1},
		{Room: "hall", Seq: 1, Kind: 1, User: "eve", Nick: "Eve", Num: 2},
	} {
		got, ok := impl.PackAdd(p, e)
		if !ok || got != p+journalOf(e) {
			t.Fatalf("PackAdd(%q, %+v) is %q, %v", p, e, got, ok)
		}
		checkNotPacked(t, got, e)
		p = got
	}
	for _, e := range []impl.Entry{
		{}, {Room: "den", Seq: 9999, Kind: 6, User: "ann", Num: 4}, {Room: "den", Seq: 0, Kind: 6, User: "ann", Num: 4}, {Room: "hall", Seq: 2, Kind: 1, User: "eve", Nick: "Eva", Num: 2}, {Room: "hall", Seq: 2, Kind: 2, User: "eve", Nick: "Eva"}, {Room: "hall", Seq: 2, Kind: 6, User: "ann", Num: 2}, {Room: "loft", Seq: 1, Kind: 6, User: "ann", Num: 4}, {Room: "loft", Seq: 0, Kind: 1, User: "ann", Nick: "Ann", Num: 3}, {Room: "hall", Seq: 2, Kind: 7, User: "ann"}, {Room: "Loft", Kind: 6, User: "ann", Num: 4},
	} {
		checkNotPacked(t, p, e)
	}
	r.Next, r.Members = 9999, r.Members[:3]
	if got := impl.PackRoom(p, "den"); !sameRoom(got, r) {
		t.Errorf("den is %+v", got)
	}
	if got := impl.PackRoom(p, "loft"); !sameRoom(got, impl.Room{Name: "loft"}) {
		t.Errorf("loft is %+v", got)
	}
}

func TestPackRoomOfNoName(t *testing.T) {
	p := packText(roomsLeft(tale()), nil)
	for _, name := range append([]string{"", "den|1", strings.Repeat("x", 1<<20)}, badUsers...) {
		if r := impl.PackRoom(p, name); !isNoRoom(r) {
			t.Errorf("PackRoom(%q) is %+v", name, r)
		}
	}
	for _, name := range goodUsers {
		for _, p := range []string{"", "x", p} {
			if r := impl.PackRoom(p, name); !sameRoom(r, impl.Room{Name: name}) {
				t.Errorf("PackRoom(%q) is %+v", name, r)
			}
		}
	}
}

// manyRooms is so many rooms.
func manyRooms(many int) []impl.Room {
	var rooms []impl.Room
	for i := range many {
		rooms = append(rooms, ownedRoom("r"+strconv.Itoa(i), 1))
	}
	return rooms
}

func TestPackWithLogMaxRoomsAndEntries(t *testing.T) {
	rooms, list := manyRooms(121), talks(121, true)
	for i := range list {
		list[i] = impl.Entry{Room: "e" + strconv.Itoa(i), Kind: 6, User: "ann", Num: 4}
	}
	full := packText(rooms[:120], list[:120])
	checkPackRead(t, full, rooms[:120], list[:120], len(full))
	checkPackRead(t, packText(rooms[:120], list), rooms[:120], list[:120], len(full))
	checkPackRead(t, packText(rooms, list), rooms[:120], nil, len(packText(rooms[:120], nil)))
	if p, ok := impl.PackAdd(packText(rooms[:120], list[:119]), list[119]); !ok || p != full {
		t.Errorf("PackAdd of the last entry is %v", ok)
	}
	checkNotPacked(t, full, list[120])
	checkNotPacked(t, packText(nil, list[:120]), list[120])
	checkNotPacked(t, packText(rooms, nil), list[0])
	if r := impl.PackRoom(packText(rooms, list), "r119"); !sameRoom(r, rooms[119]) {
		t.Errorf("r119 is %+v", r)
	}
	if r := impl.PackRoom(packText(rooms, list), "r120"); !sameRoom(r, impl.Room{Name: "r120"}) {
		t.Errorf("r120 is %+v", r)
	}
	j := journalOf(list[:120]...)
	p, ok := impl.PackMake(j, 120)
	if made, rest, n := impl.PackRead(p); !ok || len(made) != 120 || len(rest) != 0 || n != len(p) {
		t.Errorf("PackMake of 120 rooms is %q, %v", p, ok)
	}
}

// packOfBytes is a pack, and an entry that can happen behind it, that have just so many bytes together.
func packOfBytes(t *testing.T, size int) ([]impl.Room, []impl.Entry, impl.Entry) {
	t.Helper()
	bars := strings.Repeat("|", 10)
	room := with1Member("ann", bars, 3)
	room.Next = 1000
	rooms := []impl.Room{room}
	var list []impl.Entry
	for i := range 120 {
		list = append(list, impl.Entry{Room: "den", Seq: 1000 + i, Kind: 3, User: "ann", Nick: bars, Text: strings.Repeat("|", 60), Id: strings.Repeat(`\`, 12), Ref: strings.Repeat(`\`, 12)})
	}
	last, e := &list[118], list[119]
	rest := size - len(packText(rooms, list[:118])) - len(journalOf(e))
	for rest > 220 {
		filler := ownedRoom("f"+strconv.Itoa(len(rooms)), 1)
		rooms = append(rooms, filler)
		rest -= len(packText([]impl.Room{filler}, nil))
	}
	for n := range 61 {
		for k := range n + 1 {
			last.Text = "x" + strings.Repeat("|", k) + strings.Repeat("x", n-k)
			if len(last.Text) <= 60 && len(journalOf(*last)) == rest {
				return rooms, list[:119], e
			}
		}
	}
	t.Fatalf("no pack has %d bytes", size)
	return nil, nil, e
}

func TestPackWithJourMaxBytes(t *testing.T) {
	for _, size := range []int{29999, 30000, 30001} {
		rooms, list, e := packOfBytes(t, size)
		p := packText(rooms, list)
		whole := p + journalOf(e)
		if len(whole) != size || len(rooms) < 10 {
			t.Fatal(len(whole), len(rooms))
		}
		checkPackRead(t, p, rooms, list, len(p))
		if size > 30000 {
			checkNotPacked(t, p, e)
			checkPackRead(t, whole, nil, nil, 0)
			if r := impl.PackRoom(whole, "den"); !isNoRoom(r) {
				t.Errorf("den is %+v", r)
			}
			continue
		}
		if got, ok := impl.PackAdd(p, e); !ok || got != whole {
			t.Fatalf("PackAdd to a pack of %d bytes is %v", len(p), ok)
		}
		checkPackRead(t, whole, rooms, append(slices.Clone(list), e), len(whole))
		if r := impl.PackRoom(whole, "den"); r.Next != 1120 || !sameRoom(impl.PackRoom(whole, "f1"), rooms[1]) {
			t.Errorf("den is %+v", r)
		}
	}
}

// What stands behind a pack makes nothing of it, as long as there are no more than JourMax bytes.
func TestPackWithMoreBehind(t *testing.T) {
	rooms, list := roomsLeft(tale()[:4]), tale()[4:]
	p := packText(rooms, list)
	most := p + strings.Repeat("x", 30000-len(p))
	checkPackRead(t, most, rooms, list, len(p))
	checkPackRead(t, most+"x", nil, nil, 0)
	checkPackRead(t, strings.Repeat("0 0 ;", 100000), nil, nil, 0)
	want, _ := packLeft(rooms, list, "den")
	if r := impl.PackRoom(most, "den"); !sameRoom(r, want) {
		t.Errorf("den is %+v, not %+v", r, want)
	}
	for _, name := range []string{"den", "hall", "loft", ""} {
		if r := impl.PackRoom(most+"x", name); !isNoRoom(r) {
			t.Errorf("%s is %+v", name, r)
		}
	}
	e := impl.Entry{Room: "attic", Kind: 6, User: "ann", Num: 4}
	checkNotPacked(t, most, e)
	checkNotPacked(t, most+"x", e)
	checkNotPacked(t, p+"x", e)
	checkNotPacked(t, strings.Repeat(" ", 100000), e)
	if got, ok := impl.PackAdd("", e); !ok || got != journalOf(e) {
		t.Error(got, ok)
	}
	checkPackRead(t, "", nil, nil, 0)
}

func TestPackSharesNoMemory(t *testing.T) {
	j := journalOf(tale()...)
	for _, at := range []int{0, 3, 7} {
		p, _ := impl.PackMake(j, at)
		checkOwn(t, j, p)
		rooms, list, n := impl.PackRead(p)
		checkOwn(t, p, textsOfEntries(list...)...)
		for i, r := range rooms {
			checkOwn(t, p, textsOfRoom(r)...)
			if slices.ContainsFunc(rooms[:i], func(x impl.Room) bool { return shareText(textsOfRoom(r), textsOfRoom(x)) }) || shareText(textsOfRoom(r), textsOfEntries(list...)) {
				t.Errorf("%+v shares a text", r)
			}
		}
		checkOwn(t, p, textsOfRoom(impl.PackRoom(p, "den"))...)
		for _, e := range []impl.Entry{{Room: "hall", Seq: 3, Kind: 6, User: "ann", Num: 2}, {}} {
			added, _ := impl.PackAdd(p, e)
			checkOwn(t, p, added)
		}
		for i, r := range rooms {
			scribbleRoom(r)
			for _, x := range rooms[i+1:] {
				if !impl.RoomOk(x) {
					t.Errorf("two rooms of an answer share memory: %+v", x)
				}
			}
		}
		clear(rooms[:cap(rooms)])
		clear(list[:cap(list)])
		checkPackRead(t, p, roomsLeft(tale()[:at]), tale()[at:], n)
	}
	r := roomy(den())
	if impl.RoomPut(r) != roomWritten(den()) || !sameRoom(r, den()) || !marksStand(r) {
		t.Errorf("RoomPut changed %+v", r)
	}
	text := roomWritten(den())
	first, _ := impl.RoomGet(text)
	checkOwn(t, text, textsOfRoom(first)...)
	scribbleRoom(first)
	if again, ok := impl.RoomGet(text); !ok || !sameRoom(again, den()) {
		t.Errorf("two answers share memory: %+v", again)
	}
	name := strings.Clone("attic")
	checkOwn(t, name, impl.PackRoom("", name).Name)
}
