package tests

import (
	"slices"
	"strings"
	"testing"

	"loop.example/hubbub/impl"
)

func askPage(num, from, back int, name string) impl.Say {
	return impl.Say{Kind: impl.SayPage, Room: "den", Id: "q", Name: name, Num: num, From: from, Back: back}
}

func samePage(a, b impl.Page) bool {
	return a.All == b.All && a.Count == b.Count && slices.Equal(a.List, b.List)
}

func talkEntry(room string, seq int, user string) impl.Entry {
	return impl.Entry{Room: room, Seq: seq, Kind: impl.EntryTalk, User: user, Nick: strings.ToUpper(user), Text: "t", Id: "i"}
}

// pageLog has 0, 2, 4, 6, 8 of ann and bob by turns in den, other kinds between, and other rooms.
func pageLog() []impl.Entry {
	var log []impl.Entry
	for i := range 5 {
		log = append(log,
			talkEntry("den", 2*i, []string{"ann", "bob"}[i%2]),
			talkEntry("hall", i, "ann"),
			impl.Entry{Room: "den", Seq: 2*i + 1, Kind: []int{1, 2, 4, 5, 6}[i], User: "ann", Nick: "Ann", Text: "t", Id: "i"},
		)
	}
	return log
}

func seqsOf(list []impl.Entry) []int {
	var out []int
	for _, e := range list {
		out = append(out, e.Seq)
	}
	return out
}

func checkPage(t *testing.T, log []impl.Entry, s impl.Say, all bool, count int, seqs ...int) {
	t.Helper()
	p, code := impl.PageOf(log, s)
	if code != impl.ErrFine || p.All != all || p.Count != count || !slices.Equal(seqsOf(p.List), seqs) {
		t.Errorf("PageOf(%+v) is %+v, %d", s, p, code)
	}
	for _, e := range p.List {
		if !slices.Contains(log, e) || e.Kind != impl.EntryTalk || e.Room != s.Room || s.Name != "" && e.User != s.Name {
			t.Errorf("PageOf(%+v) has %+v", s, e)
		}
	}
}

func checkNoPage(t *testing.T, log []impl.Entry, s impl.Say, want int) {
	t.Helper()
	if p, code := impl.PageOf(log, s); code != want || !samePage(p, impl.Page{}) {
		t.Errorf("PageOf(%+v) is %+v, %d, not %d", s, p, code, want)
	}
}

func TestPageOfTheFirst(t *testing.T) {
	log := pageLog()
	checkPage(t, log, askPage(1, -1, -1, ""), false, 5, 0)
	checkPage(t, log, askPage(4, -1, -1, ""), false, 5, 0, 2, 4, 6)
	checkPage(t, log[:10], askPage(4, -1, -1, ""), true, 4, 0, 2, 4, 6)
	checkPage(t, log[:7], askPage(4, -1, -1, ""), true, 3, 0, 2, 4)
	checkPage(t, log, askPage(2, -1, -1, "ann"), false, 3, 0, 4)
	checkPage(t, log, askPage(3, -1, -1, "ann"), true, 3, 0, 4, 8)
	checkPage(t, log, askPage(1, -1, -1, "bob"), false, 2, 2)
	checkPage(t, log, askPage(2, -1, -1, "bob"), true, 2, 2, 6)
}

func TestPageFrom(t *testing.T) {
	log := pageLog()
	checkPage(t, log, askPage(4, 0, -1, ""), true, 5, 2, 4, 6, 8)
	checkPage(t, log, askPage(3, 0, -1, ""), false, 5, 2, 4, 6)
	checkPage(t, log, askPage(2, 4, -1, ""), true, 5, 6, 8)
	checkPage(t, log, askPage(1, 4, -1, ""), false, 5, 6)
	checkPage(t, log, askPage(1, 6, -1, ""), true, 5, 8)
	checkPage(t, log, askPage(1, 8, -1, ""), true, 5)
	checkPage(t, log, askPage(4, 0, -1, "ann"), true, 3, 4, 8)
	checkPage(t, log, askPage(1, 0, -1, "ann"), false, 3, 4)
	checkPage(t, log, askPage(2, 6, -1, "bob"), true, 2)
}

func TestPageBack(t *testing.T) {
	log := pageLog()
	checkPage(t, log, askPage(4, -1, 8, ""), true, 5, 0, 2, 4, 6)
	checkPage(t, log, askPage(3, -1, 8, ""), false, 5, 2, 4, 6)
	checkPage(t, log, askPage(1, -1, 8, ""), false, 5, 6)
	checkPage(t, log, askPage(1, -1, 2, ""), true, 5, 0)
	checkPage(t, log, askPage(4, -1, 4, ""), true, 5, 0, 2)
	checkPage(t, log, askPage(1, -1, 0, ""), true, 5)
	checkPage(t, log, askPage(4, -1, 0, ""), true, 5)
	checkPage(t, log, askPage(1, -1, 8, "ann"), false, 3, 4)
	checkPage(t, log, askPage(2, -1, 8, "ann"), true, 3, 0, 4)
	checkPage(t, log, askPage(2, -1, 2, "bob"), true, 2)
}

func TestPageWithNothingInIt(t *testing.T) {
	for _, log := range [][]impl.Entry{nil, {}, {talkEntry("hall", 0, "ann")}, {{Room: "den", Kind: impl.EntrySubject, User: "ann", Nick: "A", Text: "t", Id: "i"}}} {
		checkPage(t, log, askPage(1, -1, -1, ""), true, 0)
		checkPage(t, log, askPage(4, -1, -1, "ann"), true, 0)
		checkNoPage(t, log, askPage(4, 0, -1, ""), impl.ErrItem)
		checkNoPage(t, log, askPage(4, -1, 0, ""), impl.ErrItem)
	}
	checkPage(t, pageLog(), askPage(4, -1, -1, "cyd"), true, 0)
	checkNoPage(t, pageLog(), askPage(4, 0, -1, "cyd"), impl.ErrItem)
}

// A number counts only if it is one of those of which the page is.
func TestPageOfNoSuchNumber(t *testing.T) {
	for _, seq := range []int{1, 3, 5, 7, 9, 10, 9998, 9999} {
		checkNoPage(t, pageLog(), askPage(2, seq, -1, ""), impl.ErrItem)
		checkNoPage(t, pageLog(), askPage(2, -1, seq, ""), impl.ErrItem)
	}
	for _, seq := range []int{0, 4, 8} {
		checkNoPage(t, pageLog(), askPage(2, seq, -1, "bob"), impl.ErrItem)
		checkNoPage(t, pageLog(), askPage(2, -1, seq, "bob"), impl.ErrItem)
	}
}

// A log is taken as it stands: also with a number twice, and out of order.
func TestPageOfALogOutOfOrder(t *testing.T) {
	var log []impl.Entry
	for i, seq := range []int{9, 5, 5, 3, 9, 5} {
		log = append(log, talkEntry("den", seq, []string{"a", "b", "c", "d", "e", "f"}[i]))
	}
	checkPage(t, log, askPage(4, -1, -1, ""), false, 6, 9, 5, 5, 3)
	checkPage(t, log, askPage(4, 5, -1, ""), true, 6, 5, 3, 9, 5)
	checkPage(t, log, askPage(3, 9, -1, ""), false, 6, 5, 5, 3)
	checkPage(t, log, askPage(4, -1, 5, ""), true, 6, 9)
	checkPage(t, log, askPage(4, -1, 9, ""), true, 6)
	checkPage(t, log, askPage(2, -1, 3, ""), false, 6, 5, 5)
}

func TestPageForm(t *testing.T) {
	for _, s := range append([]impl.Say{
		{}, {Kind: 13, Room: "den", Id: "q", Num: 1, From: -1, Back: -1},
		askPage(0, -1, -1, ""), askPage(5, -1, -1, ""), askPage(-1, -1, -1, ""), askPage(1, -2, -1, ""), askPage(1, -1, -2, ""), askPage(1, 10000, -1, ""), askPage(1, -1, 10000, ""),
		askPage(1, 2, 4, ""), askPage(1, 0, 0, ""), askPage(1, -1, -1, "Ann"), askPage(1, 1, 1, ""),
		{Kind: impl.SayPage, Id: "q", Num: 1, From: -1, Back: -1}, {Kind: impl.SayPage, Room: "den", Num: 1, From: -1, Back: -1}, {Kind: impl.SayPage, Room: "den", Id: "q", Num: 1, From: -1, Back: -1, Text: "x"}, {Kind: impl.SayPage, Room: "den", Id: "q", Nick: "x", Num: 1, From: -1, Back: -1},
	}, roomSays()...) {
		checkNoPage(t, pageLog(), s, impl.ErrForm)
		checkNoPage(t, nil, s, impl.ErrForm)
	}
	for _, c := range sayCases {
		if c.say.Kind != impl.SayPage {
			checkNoPage(t, pageLog(), c.say, impl.ErrForm)
		}
	}
}

// log is what happened in two rooms, in the order of each.
func (d dice) log() []impl.Entry {
	var log []impl.Entry
	next := [2]int{d.IntN(3), d.IntN(3)}
	for range d.IntN(30) {
		k := d.IntN(2)
		e := talkEntry([]string{"den", "hall"}[k], next[k], []string{"ann", "bob", "cyd"}[d.IntN(3)])
		if d.IntN(4) == 0 {
			e.Kind = 1 + d.IntN(6)
		}
		log = append(log, e)
		next[k] += 1 + d.IntN(2)
	}
	return log
}

// saidIn is all that was said in den, by one user if one is named.
func saidIn(log []impl.Entry, name string) []impl.Entry {
	return slices.DeleteFunc(slices.Clone(log), func(e impl.Entry) bool {
		return e.Kind != impl.EntryTalk || e.Room != "den" || name != "" && e.User != name
	})
}

var pageNames = []string{"", "", "ann", "bob", "zoe"}

func TestP28APageIsSomeOfAll(t *testing.T) {
	d := newDice()
	codes := [12]int{}
	for range 8000 {
		log, s := d.log(), askPage(1+d.IntN(4), -1, -1, pageNames[d.IntN(5)])
		switch d.IntN(3) {
		case 0:
			s.From = d.IntN(20)
		case 1:
			s.Back = d.IntN(20)
		}
		all := saidIn(log, s.Name)
		p, code := impl.PageOf(log, s)
		codes[code]++
		mark := max(s.From, s.Back)
		if there := mark < 0 || slices.Contains(seqsOf(all), mark); there != (code == impl.ErrFine) || !there && code != impl.ErrItem {
			t.Fatalf("PageOf(%+v, %+v) is %+v, %d", log, s, p, code)
		}
		if code != impl.ErrFine {
			continue
		}
		if len(p.List) > s.Num || p.Count != len(all) {
			t.Fatalf("PageOf(%+v, %+v) is %+v", log, s, p)
		}
		if len(p.List) > 0 {
			at := slices.Index(all, p.List[0])
			if at < 0 || at+len(p.List) > len(all) || !slices.Equal(all[at:at+len(p.List)], p.List) {
				t.Fatalf("PageOf(%+v, %+v) is %+v, out of %+v", log, s, p, all)
			}
		}
	}
	if codes[impl.ErrFine] < 400 || codes[impl.ErrItem] < 400 {
		t.Error(codes)
	}
}

// walkPages is all pages, from one on, each asked for by what the one ahead had, up to All.
func walkPages(t *testing.T, log []impl.Entry, s impl.Say, next func(s *impl.Say, list []impl.Entry)) [][]impl.Entry {
	t.Helper()
	var pages [][]impl.Entry
	for range len(log) + 1 {
		p, code := impl.PageOf(log, s)
		pages = append(pages, p.List)
		if code == impl.ErrFine && p.All {
			return pages
		}
		if code != impl.ErrFine || len(p.List) != s.Num {
			t.Fatalf("PageOf(%+v, %+v) is %+v, %d", log, s, p, code)
		}
		next(&s, p.List)
	}
	t.Fatalf("%+v has no end in %+v", s, log)
	return nil
}

func checkPages(t *testing.T, pages [][]impl.Entry, num int, want []impl.Entry) {
	t.Helper()
	got := slices.Concat(pages...)
	if many := max(1, (len(want)+num-1)/num); !slices.Equal(got, want) || len(pages) != many {
		t.Fatalf("%d pages of %d have %+v, not %+v", len(pages), num, got, want)
	}
}

func TestP29PageByPageAllComes(t *testing.T) {
	d := newDice()
	for range 5000 {
		log, s := d.log(), askPage(1+d.IntN(4), -1, -1, pageNames[d.IntN(5)])
		pages := walkPages(t, log, s, func(s *impl.Say, list []impl.Entry) { s.From = list[len(list)-1].Seq })
		checkPages(t, pages, s.Num, saidIn(log, s.Name))
	}
}

func TestP30PageByPageBackAllComes(t *testing.T) {
	d := newDice()
	walked := 0
	for range 5000 {
		log, s := d.log(), askPage(1+d.IntN(4), -1, -1, pageNames[d.IntN(5)])
		all := saidIn(log, s.Name)
		if len(all) == 0 {
			continue
		}
		walked++
		s.Back = all[len(all)-1].Seq
		pages := walkPages(t, log, s, func(s *impl.Say, list []impl.Entry) { s.Back = list[0].Seq })
		slices.Reverse(pages)
		checkPages(t, pages, s.Num, all[:len(all)-1])
	}
	if walked < 1000 {
		t.Errorf("only %d logs had something to walk through", walked)
	}
}

func TestPageSharesNoMemory(t *testing.T) {
	for _, s := range []impl.Say{askPage(4, -1, -1, ""), askPage(2, 2, -1, ""), askPage(2, -1, 8, ""), askPage(2, 8, -1, ""), askPage(2, -1, -1, "ann")} {
		log := pageLog()
		first, _ := impl.PageOf(log, s)
		if shareText(textsOfEntries(first.List...), textsOfEntries(log...)) {
			t.Errorf("the page of %+v shares a text with the log", s)
		}
		want := slices.Clone(first.List)
		for i := range first.List[:cap(first.List)] {
			first.List[:cap(first.List)][i] = impl.Entry{Room: "changed"}
		}
		if !slices.Equal(log, pageLog()) {
			t.Errorf("the page of %+v shares memory with the log", s)
		}
		if again, _ := impl.PageOf(log, s); !slices.Equal(again.List, want) {
			t.Errorf("two answers share memory: %+v", again)
		}
	}
}
