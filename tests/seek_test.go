package tests

import (
	"slices"
	"strconv"
	"strings"
	"testing"

	"loop.example/hubbub/impl"
)

func TestWordsOf(t *testing.T) {
	for text, want := range map[string][]string{
		"":                        nil,
		" ":                       nil,
		".,;:!? \n\t-_'\"()[]{}":  nil,
		"a":                       {"a"},
		"A":                       {"a"},
		"Hi, hi é10-x":            {"hi", "é10", "x"},
		" a b ":                   {"a", "b"},
		"a\nb\tc":                 {"a", "b", "c"},
		"b a b a c":               {"b", "a", "c"},
		"good Good GOOD gOOd":     {"good"},
		"goods good":              {"goods", "good"},
		"10 010 1 0":              {"10", "010", "1", "0"},
		"a1b2 A1B2":               {"a1b2"},
		"a_b-c.d'e":               {"a", "b", "c", "d", "e"},
		"don't":                   {"don", "t"},
		"É é":                     {"É", "é"},
		"Ä-ä ÄA äa":               {"Ä", "ä", "Äa", "äa"},
		"\u212a K \u0130 i":       {"\u212a", "k", "\u0130", "i"},
		"a\u00a0b":                {"a\u00a0b"},
		"\U0001f600x X\U0001f600": {"\U0001f600x", "x\U0001f600"},
		"\xff \x80A\xfe \xc3":     {"\xff", "\x80a\xfe", "\xc3"},
		"a\x7fb\x00c":             {"a", "b", "c"},
		"@A[`a{/0:":               {"a", "0"},
		"&amp;<b>":                {"amp", "b"},
	} {
		if got := impl.WordsOf(text); !slices.Equal(got, want) {
			t.Errorf("WordsOf(%q) is %q, not %q", text, got, want)
		}
	}
}

func TestWordsOfEachByte(t *testing.T) {
	for c := range 256 {
		s := string([]byte{byte(c)})
		small := s
		if 'A' <= c && c <= 'Z' {
			small = string([]byte{byte(c + 32)})
		}
		within := c > 127 || 'a' <= c && c <= 'z' || 'A' <= c && c <= 'Z' || '0' <= c && c <= '9'
		want := []string{"x" + small + "y"}
		if !within {
			want = []string{"x", "y"}
		}
		if got := impl.WordsOf("x" + s + "y"); !slices.Equal(got, want) {
			t.Errorf("with the byte %d there are %q", c, got)
		}
		if got := impl.WordsOf(s); within != (len(got) == 1) || within && got[0] != small {
			t.Errorf("of the byte %d there are %q", c, got)
		}
	}
}

// wordsIn asks anew for the words of a text, byte by byte.
func wordsIn(text string) []string {
	var list []string
	word := ""
	for i := range len(text) + 1 {
		if i < len(text) {
			c := text[i]
			if 'A' <= c && c <= 'Z' {
				c += 32
			}
			if c > 127 || 'a' <= c && c <= 'z' || '0' <= c && c <= '9' {
				word += string([]byte{c})
				continue
			}
		}
		if word != "" && !slices.Contains(list, word) {
			list = append(list, word)
		}
		word = ""
	}
	return list
}

// wordy is a text of few words.
func (d dice) wordy() string {
	return d.pick([]string{"a", "B", "b", "day", "Day", "1", "0", "é", "\xc3", "\xff", " ", " ", " ", "-", ".", "\n", "\x7f", "'"}, 12)
}

func TestP70WordsAreSmallAndToldOnce(t *testing.T) {
	d := newDice()
	for range 20000 {
		a, b := d.wordy(), d.wordy()
		words := impl.WordsOf(a)
		if !slices.Equal(words, wordsIn(a)) {
			t.Fatalf("WordsOf(%q) is %q, not %q", a, words, wordsIn(a))
		}
		both := slices.Clone(words)
		for _, word := range impl.WordsOf(b) {
			if !slices.Contains(words, word) {
				both = append(both, word)
			}
		}
		if got := impl.WordsOf(a + " " + b); !slices.Equal(got, both) {
			t.Fatalf("WordsOf(%q) is %q, not %q", a+" "+b, got, both)
		}
		for i, word := range words {
			if got := impl.WordsOf(word); !slices.Equal(got, []string{word}) || slices.Contains(words[:i], word) {
				t.Fatalf("WordsOf(%q), of %q, is %q", word, a, got)
			}
		}
	}
	var long strings.Builder
	for i := range 100000 {
		long.WriteString("W" + strconv.Itoa(i%50000) + " ")
	}
	if words := impl.WordsOf(long.String()); len(words) != 50000 || words[49999] != "w49999" {
		t.Error(len(words))
	}
}

// said is an entry by which somebody says something in den.
func said(seq int, user, id, ref, text string) impl.Entry {
	return impl.Entry{Room: "den", Seq: seq, Kind: impl.EntryTalk, User: user, Nick: nickOf(user), Text: text, Id: id, Ref: ref}
}

// inRoom is an entry in another room, asKind one of another kind.
func inRoom(room string, e impl.Entry) impl.Entry {
	e.Room = room
	return e
}

func asKind(kind int, e impl.Entry) impl.Entry {
	e.Kind = kind
	return e
}

// withText is an entry that says something else.
func withText(e impl.Entry, text string) impl.Entry {
	e.Text = text
	return e
}

func TestSeekNow(t *testing.T) {
	m := said(1, "ann", "m", "", "one")
	for what, c := range map[string]struct {
		log, now []impl.Entry
	}{
		"nothing":           {nil, nil},
		"as it was said":    {[]impl.Entry{m}, []impl.Entry{m}},
		"in its place":      {[]impl.Entry{m, said(2, "ann", "n", "m", "two")}, []impl.Entry{withText(m, "two")}},
		"in its place last": {[]impl.Entry{m, said(2, "ann", "n", "m", "two"), said(3, "ann", "o", "m", "three")}, []impl.Entry{withText(m, "three")}},
		"with the same Id":  {[]impl.Entry{m, said(2, "ann", "m", "m", "two"), said(3, "ann", "m", "m", "three")}, []impl.Entry{withText(m, "three")}},
		"in the order in which it was said first": {
			[]impl.Entry{m, said(2, "ann", "n", "", "x"), said(3, "ann", "o", "m", "two"), said(4, "ann", "p", "n", "y")},
			[]impl.Entry{withText(m, "two"), said(2, "ann", "n", "", "y")},
		},
		"of another user": {
			[]impl.Entry{m, said(2, "bob", "n", "m", "two")},
			[]impl.Entry{m, said(2, "bob", "n", "m", "two")},
		},
		"of two users with one Id": {
			[]impl.Entry{m, said(2, "bob", "m", "", "two"), said(3, "ann", "n", "m", "three"), said(4, "bob", "n", "m", "four")},
			[]impl.Entry{withText(m, "three"), said(2, "bob", "m", "", "four")},
		},
		"of an Id that comes twice": {
			[]impl.Entry{m, said(2, "ann", "m", "", "two"), said(3, "ann", "n", "m", "three")},
			[]impl.Entry{m, said(2, "ann", "m", "", "three")},
		},
		"of an Id that comes again behind": {
			[]impl.Entry{m, said(2, "ann", "n", "m", "two"), said(3, "ann", "m", "", "three"), said(4, "ann", "n", "m", "four")},
			[]impl.Entry{withText(m, "two"), said(3, "ann", "m", "", "four")},
		},
		"ahead of that": {
			[]impl.Entry{said(0, "ann", "n", "m", "zero"), m},
			[]impl.Entry{said(0, "ann", "n", "m", "zero"), m},
		},
		"of itself": {[]impl.Entry{said(2, "ann", "m", "m", "two")}, []impl.Entry{said(2, "ann", "m", "m", "two")}},
		"of one in its place": {
			[]impl.Entry{m, said(2, "ann", "n", "m", "two"), said(3, "ann", "o", "n", "three")},
			[]impl.Entry{withText(m, "two"), said(3, "ann", "o", "n", "three")},
		},
		"of one that has a Ref to nothing": {
			[]impl.Entry{said(1, "ann", "m", "k", "one"), said(2, "ann", "n", "m", "two")},
			[]impl.Entry{said(1, "ann", "m", "k", "one"), said(2, "ann", "n", "m", "two")},
		},
		"of one that has a Ref, and one ahead that has none": {
			[]impl.Entry{m, said(2, "ann", "m", "k", "two"), said(3, "ann", "n", "m", "three")},
			[]impl.Entry{withText(m, "three"), said(2, "ann", "m", "k", "two")},
		},
		"of another room": {
			[]impl.Entry{inRoom("hall", m), said(2, "ann", "n", "m", "two")},
			[]impl.Entry{said(2, "ann", "n", "m", "two")},
		},
		"said in another room": {[]impl.Entry{m, inRoom("hall", said(2, "ann", "n", "m", "two")), inRoom("", m)}, []impl.Entry{m}},
		"of what is no talk": {
			[]impl.Entry{asKind(4, m), said(2, "ann", "n", "m", "two"), asKind(0, m), asKind(7, m)},
			[]impl.Entry{said(2, "ann", "n", "m", "two")},
		},
		"by what is no talk": {[]impl.Entry{m, asKind(4, said(2, "ann", "n", "m", "two")), asKind(1, said(3, "ann", "n", "m", "two"))}, []impl.Entry{m}},
		"of a Ref that no Id is": {
			[]impl.Entry{m, said(2, "ann", "n", "M", "two"), said(3, "ann", "o", "m ", "three")},
			[]impl.Entry{m, said(2, "ann", "n", "M", "two"), said(3, "ann", "o", "m ", "three")},
		},
		"an empty Id and no Ref": {
			[]impl.Entry{said(1, "ann", "", "", "one"), said(2, "ann", "", "", "two")},
			[]impl.Entry{said(1, "ann", "", "", "one"), said(2, "ann", "", "", "two")},
		},
		"the same Seq twice": {[]impl.Entry{m, m, said(1, "ann", "m", "m", "two")}, []impl.Entry{m, withText(m, "two")}},
	} {
		if got := impl.SeekNow(c.log, "den"); !slices.Equal(got, c.now) {
			t.Errorf("%s: %+v, not %+v", what, got, c.now)
		}
	}
	if got := impl.SeekNow([]impl.Entry{m}, "hall"); len(got) > 0 {
		t.Error(got)
	}
	if got := impl.SeekNow([]impl.Entry{m}, ""); len(got) > 0 {
		t.Error(got)
	}
}

// heard is a log of many who talk in two rooms, with few ids and words, so that much stands in the place of something.
func (d dice) heard() []impl.Entry {
	var log []impl.Entry
	ids := []string{"m", "n", "o"}
	for i := range d.IntN(25) {
		e := impl.Entry{Room: "den", Seq: i, Kind: impl.EntryTalk, User: someUsers[d.IntN(3)], Text: d.wordy(), Id: ids[d.IntN(3)]}
		if d.IntN(2) == 0 {
			e.Ref = ids[d.IntN(3)]
		}
		switch d.IntN(8) {
		case 0:
			e.Room = "hall"
		case 1:
			e.Kind = d.IntN(8)
		}
		log = append(log, e)
	}
	return log
}

// isMeantBy says whether an entry is what another one behind it stands in the place of.
func isMeantBy(a, b impl.Entry) bool {
	return b.Ref != "" && a.Ref == "" && a.Kind == 3 && a.Room == b.Room && a.User == b.User && a.Id == b.Ref
}

// standing asks anew what stands in a room: of each that was said, whether one ahead is meant by it, and else which is the last that means it.
func standing(log []impl.Entry, room string) []impl.Entry {
	var now []impl.Entry
	talk := saidAll(log, room)
	meant := func(k int) int {
		for i := k - 1; i >= 0; i-- {
			if isMeantBy(talk[i], talk[k]) {
				return i
			}
		}
		return -1
	}
	for i, e := range talk {
		if meant(i) >= 0 {
			continue
		}
		for k := len(talk) - 1; k > i; k-- {
			if meant(k) == i {
				e.Text = talk[k].Text
				break
			}
		}
		now = append(now, e)
	}
	return now
}

func saidAll(log []impl.Entry, room string) []impl.Entry {
	return slices.DeleteFunc(slices.Clone(log), func(e impl.Entry) bool { return e.Room != room || e.Kind != 3 })
}

func TestP71WhatStandsIsWhatWasSaidFirst(t *testing.T) {
	d := newDice()
	replaced, kept := 0, 0
	for range 4000 {
		log := d.heard()
		now, talk := impl.SeekNow(log, "den"), saidAll(log, "den")
		if want := standing(log, "den"); !slices.Equal(now, want) {
			t.Fatalf("SeekNow(%+v) is %+v, not %+v", log, now, want)
		}
		from := 0
		for _, e := range now {
			at := slices.IndexFunc(talk[from:], func(x impl.Entry) bool { return withText(x, "") == withText(e, "") })
			if at < 0 {
				t.Fatalf("SeekNow(%+v) has %+v", log, e)
			}
			if talk[from+at].Text != e.Text {
				replaced++
			}
			from += at + 1
			if e.Ref != "" {
				kept++
			}
		}
		for _, e := range talk {
			if e.Ref == "" && !slices.ContainsFunc(now, func(x impl.Entry) bool { return withText(x, "") == withText(e, "") }) {
				t.Fatalf("SeekNow(%+v) has not %+v", log, e)
			}
		}
	}
	if replaced < 400 || kept < 400 {
		t.Error(replaced, kept)
	}
}

// seqsWith is the numbers of entries that have all of some words.
func seqsWith(now []impl.Entry, words []string) []int {
	var out []int
	for _, e := range now {
		has := wordsIn(e.Text)
		if !slices.ContainsFunc(words, func(word string) bool { return !slices.Contains(has, word) }) {
			out = append(out, e.Seq)
		}
	}
	return out
}

func TestP72WhatIsFoundHasAllWords(t *testing.T) {
	d := newDice()
	some, none := 0, 0
	for range 4000 {
		log, text := d.heard(), d.wordy()
		now := standing(log, "den")
		got := impl.SeekOf(log, "den", text)
		if want := seqsWith(now, wordsIn(text)); !slices.Equal(got, want) {
			t.Fatalf("SeekOf(%+v, %q) is %v, not %v", log, text, got, want)
		}
		if len(got) > 0 {
			some++
		} else {
			none++
		}
		for _, text := range []string{"", " ", ".-'", "\x7f"} {
			if got := impl.SeekOf(log, "den", text); !slices.Equal(got, seqsOf(now)) {
				t.Fatalf("SeekOf(%+v, %q) is %v", log, text, got)
			}
		}
	}
	if some < 800 || none < 800 {
		t.Error(some, none)
	}
}

func sameHit(a, b impl.Hit) bool {
	return a.Word == b.Word && slices.Equal(a.Seqs, b.Seqs)
}

func TestP73AnIndexHasEachWordOnce(t *testing.T) {
	d := newDice()
	for range 1500 {
		log := d.heard()
		index := impl.SeekIndex(log, "den")
		var words []string
		for i, h := range index {
			if i > 0 && index[i-1].Word >= h.Word {
				t.Fatalf("SeekIndex(%+v) is %+v", log, index)
			}
			if want := impl.SeekOf(log, "den", h.Word); !slices.Equal(h.Seqs, want) || len(want) == 0 {
				t.Fatalf("SeekIndex(%+v) has %+v, not %v", log, h, want)
			}
			words = append(words, h.Word)
		}
		all := wordsIn(strings.Join(textsIn(standing(log, "den")), " "))
		slices.Sort(all)
		if !slices.Equal(words, all) {
			t.Fatalf("SeekIndex(%+v) has %q, not %q", log, words, all)
		}
		if again := impl.SeekIndex(log, "den"); !slices.EqualFunc(again, index, sameHit) {
			t.Fatalf("SeekIndex(%+v) is %+v, and was %+v", log, again, index)
		}
	}
}

func textsIn(list []impl.Entry) []string {
	var out []string
	for _, e := range list {
		out = append(out, e.Text)
	}
	return out
}

func seekLog() []impl.Entry {
	return []impl.Entry{
		said(1, "ann", "m", "", "Good day, good Day"),
		said(2, "bob", "m", "", "day 10"),
		said(3, "ann", "n", "m", "good night é"),
		inRoom("hall", said(4, "ann", "n", "", "day night")),
		asKind(impl.EntrySubject, said(5, "ann", "s", "", "day night")),
		said(6, "cyd", "o", "x", "...a night, a day"),
		said(7, "cyd", "p", "", "!"),
		said(2, "dan", "q", "", "days"),
	}
}

func TestSeekOf(t *testing.T) {
	for text, want := range map[string][]int{
		"":                  {1, 2, 6, 7, 2},
		"?!":                {1, 2, 6, 7, 2},
		"good":              {1},
		"DAY":               {2, 6},
		"day":               {2, 6},
		"days":              {2},
		"da":                nil,
		"night":             {1, 6},
		"night good":        {1},
		"good-night":        {1},
		"good good":         {1},
		"good day":          nil,
		"day night":         {6},
		"a":                 {6},
		"10":                {2},
		"1":                 nil,
		"é":                 {1},
		"É":                 nil,
		"\xc3":              nil,
		"no":                nil,
		"night good é more": nil,
	} {
		if got := impl.SeekOf(seekLog(), "den", text); !slices.Equal(got, want) {
			t.Errorf("SeekOf(%q) is %v, not %v", text, got, want)
		}
	}
	for _, room := range []string{"loft", "", "Den"} {
		if got := impl.SeekOf(seekLog(), room, ""); len(got) > 0 {
			t.Errorf("in %q there is %v", room, got)
		}
		if got := impl.SeekIndex(seekLog(), room); len(got) > 0 {
			t.Errorf("in %q there is %v", room, got)
		}
	}
	if got := impl.SeekOf(seekLog(), "hall", "day"); !slices.Equal(got, []int{4}) {
		t.Error(got)
	}
}

func TestSeekIndex(t *testing.T) {
	want := []impl.Hit{{Word: "10", Seqs: []int{2}}, {Word: "a", Seqs: []int{6}}, {Word: "day", Seqs: []int{2, 6}}, {Word: "days", Seqs: []int{2}}, {Word: "good", Seqs: []int{1}}, {Word: "night", Seqs: []int{1, 6}}, {Word: "é", Seqs: []int{1}}}
	if got := impl.SeekIndex(seekLog(), "den"); !slices.EqualFunc(got, want, sameHit) {
		t.Errorf("SeekIndex is %+v", got)
	}
	if got := impl.SeekIndex(nil, "den"); len(got) > 0 {
		t.Errorf("SeekIndex of nothing is %+v", got)
	}
}

func TestSeekSharesNoMemory(t *testing.T) {
	log := seekLog()
	texts := textsOfEntries(log...)
	now := impl.SeekNow(log, "den")
	if shareText(textsOfEntries(now...), texts) {
		t.Error("SeekNow shares a text with the log")
	}
	clear(now[:cap(now)])
	seqs := impl.SeekOf(log, "den", "")
	clear(seqs[:cap(seqs)])
	first, again := impl.SeekIndex(log, "den"), impl.SeekIndex(log, "den")
	for i, h := range first {
		for _, text := range texts {
			checkOwn(t, text, h.Word)
		}
		for k := range h.Seqs[:cap(h.Seqs)] {
			h.Seqs[:cap(h.Seqs)][k] = -7
		}
		for _, x := range first[i+1:] {
			if slices.Contains(x.Seqs, -7) {
				t.Errorf("%s and %s share memory", h.Word, x.Word)
			}
		}
	}
	clear(first[:cap(first)])
	if !slices.Equal(log, seekLog()) || !slices.EqualFunc(again, impl.SeekIndex(log, "den"), sameHit) {
		t.Error("two answers, or an answer and the log, share memory", log, again)
	}
	for _, text := range []string{"word", "some Words 10 é"} {
		text = strings.Clone(text)
		words := impl.WordsOf(text)
		checkOwn(t, text, words...)
		clear(words[:cap(words)])
		if again := impl.WordsOf(text); slices.Contains(again, "") {
			t.Error("two answers share memory", again)
		}
	}
}
