package tests

import (
	"fmt"
	"math"
	"slices"
	"strings"
	"testing"

	"loop.example/hubbub/impl"
)

// The numbers are the document's: other tests take them by name.
func TestServerNumbers(t *testing.T) {
	got := []int{impl.BreakCount, impl.AccountMax, impl.SessMax, impl.RoomsMax, impl.LinkMax, impl.IdleMax, impl.ToldMax, impl.ToldFull, impl.KeyMax}
	if !slices.Equal(got, []int{4, 4, 6, 3, 99, 3, 1000, 400, 9999}) {
		t.Error(got)
	}
}

func TestEntryIsTold(t *testing.T) {
	for want, e := range map[string]impl.Entry{
		`<entry kind='join' nick='Ann' num='3' room='den' seq='1' user='ann'/>`:                                     {Room: "den", Seq: 1, Kind: 1, User: "ann", Nick: "Ann", Num: 3},
		`<entry kind='leave' nick='A b' num='0' room='den' seq='9998' user='ann'/>`:                                 {Room: "den", Seq: 9998, Kind: 2, User: "ann", Nick: "A b"},
		`<entry kind='leave' nick='&lt;&apos;' num='3' room='den' seq='10' user='ann'/>`:                            {Room: "den", Seq: 10, Kind: 2, User: "ann", Nick: "<'", Num: 3},
		`<entry id='m1' kind='talk' nick='Ann' room='den' seq='2' user='ann'>hi</entry>`:                            {Room: "den", Seq: 2, Kind: 3, User: "ann", Nick: "Ann", Text: "hi", Id: "m1"},
		`<entry id='&quot;' kind='talk' nick='Ann' ref='&amp;' room='den' seq='2' user='ann'>&#10; é&gt;</entry>`:   {Room: "den", Seq: 2, Kind: 3, User: "ann", Nick: "Ann", Text: "\n é>", Id: `"`, Ref: "&"},
		`<entry id='m1' kind='subject' nick='Ann' room='d-._0' seq='0' user='a.b'> </entry>`:                        {Room: "d-._0", Seq: 0, Kind: 4, User: "a.b", Nick: "Ann", Text: " ", Id: "m1"},
		`<entry kind='role' nick='Ann' num='1' room='den' seq='7' user='ann'/>`:                                     {Room: "den", Seq: 7, Kind: 5, User: "ann", Nick: "Ann", Num: 1},
		`<entry kind='rank' num='0' room='den' seq='7' user='ann'/>`:                                                {Room: "den", Seq: 7, Kind: 6, User: "ann"},
		`<entry kind='rank' num='4' room='den' seq='0' user='abcdefgh'/>`:                                           {Room: "den", Seq: 0, Kind: 6, User: "abcdefgh", Num: 4},
		`<entry id='0' kind='talk' nick='0' ref='0' room='0' seq='0' user='0'>0</entry>`:                            {Room: "0", Kind: 3, User: "0", Nick: "0", Text: "0", Id: "0", Ref: "0"},
		"<entry id='x' kind='talk' nick='X' room='x' seq='0' user='x'>" + strings.Repeat("&quot;", 60) + "</entry>": {Room: "x", Kind: 3, User: "x", Nick: "X", Text: strings.Repeat(`"`, 60), Id: "x"},
	} {
		if got := impl.TellEntry(e); got != want {
			t.Errorf("TellEntry(%+v) is %s, not %s", e, got, want)
		}
	}
}

// toldEntry is an entry that is ok, with signs that are written otherwise.
func (d dice) toldEntry() impl.Entry {
	e := d.barredEntry()
	signs := []string{"<", ">", "&", "'", "\"", "a", "|"}
	if e.Nick != "" {
		e.Nick = "n" + d.pick(signs, 9)
	}
	if e.Text != "" {
		e.Text, e.Id = d.pick(append(signs, "\n", "\t", " ", "é"), 29)+"t", d.pick(signs, 11)+"i"
	}
	if e.Ref != "" {
		e.Ref = "r" + d.pick(signs, 11)
	}
	return e
}

func TestP43WhatTellsAnEntryIsATreeOfItsOwn(t *testing.T) {
	d := newDice()
	seen := map[string]impl.Entry{}
	kinds := [7]int{}
	for range 10000 {
		e := d.toldEntry()
		if d.IntN(10) == 0 {
			e.Num = d.IntN(8) - 2
		}
		text := impl.TellEntry(e)
		if !impl.EntryOk(e) {
			if text != "" {
				t.Fatalf("TellEntry(%+v) is %q", e, text)
			}
			continue
		}
		kinds[e.Kind]++
		tree, code := impl.TreeGet(text)
		if code != impl.XmlFine || tree[0].Name != "entry" || impl.TreePut(tree) != text || text != entryTold(e) {
			t.Fatalf("TellEntry(%+v) is %q", e, text)
		}
		if other, there := seen[text]; there && other != e {
			t.Fatalf("%+v and %+v are both told as %q", e, other, text)
		}
		seen[text] = e
	}
	for kind := 1; kind <= 6; kind++ {
		if kinds[kind] < 250 {
			t.Error(kinds)
		}
	}
	// Entries that differ in one thing.
	for _, e := range entryCases {
		for i := range 6 {
			other := e
			*entryField(&other, i) += "x"
			if impl.EntryOk(e) && impl.EntryOk(other) && impl.TellEntry(other) == impl.TellEntry(e) {
				t.Errorf("%+v and %+v are told alike", e, other)
			}
		}
	}
}

// The longest entry there is can be read as a tree.
func TestTheLongestEntryIsATree(t *testing.T) {
	quotes := strings.Repeat("'", 60)
	e := impl.Entry{Room: "abcdefgh", Seq: 9998, Kind: 3, User: "abcdefgh", Nick: quotes[:10], Text: quotes, Id: quotes[:12], Ref: quotes[:12]}
	if tree, code := impl.TreeGet(impl.TellEntry(e)); code != impl.XmlFine || len(tree) != 2 || tree[1].Text != quotes {
		t.Errorf("%d bytes are %v, %d", len(impl.TellEntry(e)), tree, code)
	}
}

func TestWhatIsNoEntryIsNotTold(t *testing.T) {
	for _, e := range []impl.Entry{
		{}, {Kind: 1}, {Room: "den", User: "ann"}, {Room: "den", Kind: 7, User: "ann"}, {Room: "den", Kind: -1, User: "ann"}, {Room: "den", Kind: math.MaxInt, User: "ann"},
		{Room: "den", Kind: 6, User: "ann", Num: 5}, {Room: "den", Kind: 6, User: "ann", Nick: "Ann"}, {Room: "den", Kind: 1, User: "ann", Nick: "Ann"}, {Room: "Den", Kind: 6, User: "ann"},
		{Room: "den", Seq: -1, Kind: 6, User: "ann"}, {Room: "den", Seq: 9999, Kind: 6, User: "ann"}, {Room: "den", Kind: 3, User: "ann", Nick: "Ann", Id: "m"}, {Room: "den", Kind: 3, User: "ann", Nick: "Ann", Text: "x"},
		{Room: "den", Kind: 3, User: "ann", Nick: "Ann", Text: "x", Id: "m", Num: 1},
	} {
		if got := impl.TellEntry(e); got != "" {
			t.Errorf("TellEntry(%+v) is %q", e, got)
		}
	}
}

var goodAccounts = [][]impl.Account{
	accountsOf("ann"), accountsOf("ann", "bob"), accountsOf("a", "b", "c", "d"), accountsOf("-", ".", "0", "_"), accountsOf("a", "aa", "ab", "b"), accountsOf("abcdefgh", "b"),
	{{User: "a", Pass: "p"}, {User: "b", Pass: "p"}}, {{User: "a", Pass: "abcdefghijkl"}}, {{User: "a", Pass: "!~<&>'\""}},
}

var badAccounts = [][]impl.Account{
	nil, {}, accountsOf("a", "b", "c", "d", "e"), accountsOf("b", "a"), accountsOf("a", "a"), accountsOf("a", "b", "b"), accountsOf("a", "c", "b"), accountsOf("ab", "a"), accountsOf("a", "b", "c", "d", "d"),
	accountsOf(""), accountsOf("", "a"), accountsOf("A"), accountsOf("abcdefghi"), accountsOf("a b"), accountsOf("a", "é"),
	{{User: "a"}}, {{User: "a", Pass: "p"}, {User: "b"}}, {{User: "a", Pass: "p q"}}, {{User: "a", Pass: "abcdefghijklm"}}, {{User: "a", Pass: "é"}}, {{User: "a", Pass: "p\x7f"}}, {{Pass: "p"}}, {{}},
}

func TestP44InANewServerNothingHappened(t *testing.T) {
	for _, list := range goodAccounts {
		s := impl.ServerNew(list)
		if !sameServer(s, impl.Server{Accounts: list}) || !impl.ServerOk(s) {
			t.Errorf("ServerNew(%v) is %+v", list, s)
		}
		if up := impl.ServerRise(list, "", 0); !sameServer(up, s) {
			t.Errorf("ServerRise(%v) is %+v", list, up)
		}
	}
	for _, list := range badAccounts {
		if s := impl.ServerNew(list); !isNoServer(s) || impl.ServerOk(s) {
			t.Errorf("ServerNew(%v) is %+v", list, s)
		}
		for _, j := range []string{"", journalOf(tale()...)} {
			if s := impl.ServerRise(list, j, 0); !isNoServer(s) {
				t.Errorf("ServerRise(%v) is %+v", list, s)
			}
		}
	}
}

// lived is a log of two rooms: ann and bob are in den, bob and cyd in hall, dan was in both; zoe, who has no account, has a rank.
func lived() []impl.Entry {
	return slices.Concat(
		numbered("den", 0, impl.Entry{Kind: 6, User: "ann", Num: 4}, impl.Entry{Kind: 1, User: "ann", Nick: "Ann", Num: 3}, impl.Entry{Kind: 1, User: "bob", Nick: "Bob", Num: 2}),
		numbered("hall", 0, impl.Entry{Kind: 6, User: "dan", Num: 4}, impl.Entry{Kind: 1, User: "dan", Nick: "Dan", Num: 3}, impl.Entry{Kind: 1, User: "bob", Nick: "Bob", Num: 2}, impl.Entry{Kind: 1, User: "cyd", Nick: "Cyd", Num: 2}),
		numbered("den", 3, impl.Entry{Kind: 1, User: "dan", Nick: "Dan", Num: 2}, impl.Entry{Kind: 2, User: "dan", Nick: "Dan"}, impl.Entry{Kind: 6, User: "zoe", Num: 2}),
		numbered("hall", 4, impl.Entry{Kind: 2, User: "dan", Nick: "Dan", Num: 3}),
	)
}

// lively is a server with each kind of session: ann has counts and a link, bob a link alone, cyd one to be gone on with and one that is new, and somebody has not said who they are.
func lively() impl.Server {
	on := impl.Stream{State: impl.StreamOn}
	return impl.Server{
		Accounts: accountsOf("ann", "bob", "cyd", "dan"),
		Log:      lived(),
		Journal:  journalOf(lived()...),
		Sess: []impl.Sess{
			{Link: 4, User: "ann", Stream: on, On: true, Key: "ann-0", Line: impl.Line{Base: 255, Queue: []string{"x", "y"}, Got: 3}, Told: []string{"w", "x", "y"}},
			{Link: 0, User: "bob", Stream: impl.Stream{State: impl.StreamOn, Buf: "<r", Space: "urn:q"}},
			{Link: -1, User: "cyd", On: true, Key: "cyd-1", Line: impl.Line{Queue: []string{"z"}, Got: 1}, Idle: 2, Told: []string{"z"}},
			{Link: 99, User: "cyd", Stream: on},
			{Link: 11, Stream: impl.Stream{Buf: "<str"}},
		},
		Next: 2,
	}
}

func livelyWith(change func(s *impl.Server)) impl.Server {
	s := cloneServer(lively())
	change(&s)
	return s
}

// livelySess is a lively server with a session that is changed.
func livelySess(at int, change func(x *impl.Sess)) impl.Server {
	return livelyWith(func(s *impl.Server) { change(&s.Sess[at]) })
}

// withLog is a server with just that log.
func withLog(s impl.Server, log []impl.Entry) impl.Server {
	s.Log, s.Journal = log, journalOf(log...)
	return s
}

// talked is so many entries: ann owns den and is in it, bob is, too, and ann talks.
func talked(many int) []impl.Entry {
	list := numbered("den", 0, impl.Entry{Kind: 6, User: "ann", Num: 4}, impl.Entry{Kind: 1, User: "ann", Nick: "Ann", Num: 3}, impl.Entry{Kind: 1, User: "bob", Nick: "Bob", Num: 2})
	for i := len(list); i < many; i++ {
		list = append(list, impl.Entry{Room: "den", Seq: i, Kind: 3, User: "ann", Nick: "Ann", Text: "t", Id: fmt.Sprint("m", i)})
	}
	return list
}

// owned is an entry for each of so many rooms, that ann owns.
func owned(many int) []impl.Entry {
	var list []impl.Entry
	for i := range many {
		list = append(list, impl.Entry{Room: fmt.Sprint("r", i), Kind: 6, User: "ann", Num: 4})
	}
	return list
}

func serversOk() []impl.Server {
	list := []impl.Server{
		lively(),
		livelyWith(func(s *impl.Server) { s.Next = 0 }),
		livelyWith(func(s *impl.Server) { s.Next = 9999 }),
		livelyWith(func(s *impl.Server) { s.Sess = append(s.Sess, impl.Sess{Link: 12}) }),
		livelyWith(func(s *impl.Server) { slices.Reverse(s.Sess) }),
		livelyWith(func(s *impl.Server) { s.Sess[4] = impl.Sess{Link: 11, Stream: impl.Stream{State: impl.StreamOn}} }),
		livelyWith(func(s *impl.Server) { s.Sess = s.Sess[:3] }),
		livelyWith(func(s *impl.Server) { s.Sess = slices.Delete(s.Sess, 2, 3) }),
		withLog(lively(), nil),
		withLog(lively(), talked(118)),
		withLog(lively(), owned(3)),
		withLog(impl.ServerNew(accountsOf("bob")), owned(3)),
		withLog(impl.ServerNew(accountsOf("dan")), []impl.Entry{{Room: "den", Kind: 6, User: "zoe", Num: 4}, {Room: "den", Seq: 1, Kind: 6, User: "yan"}}),
	}
	for _, change := range []func(x *impl.Sess){
		func(x *impl.Sess) { x.Key = "ann-00"[:5] }, func(x *impl.Sess) { x.Key = "ann-9" }, func(x *impl.Sess) { x.Key = "ann-123456789" }, func(x *impl.Sess) { x.Key = "ann-10" },
		func(x *impl.Sess) { x.Line = impl.Line{Over: true} }, func(x *impl.Sess) { x.Told = nil }, func(x *impl.Sess) { x.Told = told(400) },
		func(x *impl.Sess) { x.Told = []string{strings.Repeat("x", 3001), "\xff", ""} }, func(x *impl.Sess) { x.Line.Queue = told(8) }, func(x *impl.Sess) { x.Stream.Buf = "<" },
	} {
		list = append(list, livelySess(0, change))
	}
	for _, idle := range []int{0, 1, 3} {
		list = append(list, livelySess(2, func(x *impl.Sess) { x.Idle = idle }))
	}
	return list
}

func serversNotOk() []impl.Server {
	tooFull := talked(119)
	list := []impl.Server{
		{}, {Accounts: accountsOf("a", "b", "c", "d", "e")},
		livelyWith(func(s *impl.Server) { s.Next = -1 }), livelyWith(func(s *impl.Server) { s.Next = 10000 }), livelyWith(func(s *impl.Server) { s.Next = math.MinInt }),
		// Log and Journal are not the same.
		livelyWith(func(s *impl.Server) { s.Log = s.Log[:len(s.Log)-1] }), livelyWith(func(s *impl.Server) { s.Log = s.Log[1:] }), livelyWith(func(s *impl.Server) { s.Log = nil }),
		livelyWith(func(s *impl.Server) { s.Log[1].Nick = "Ant" }), livelyWith(func(s *impl.Server) { s.Journal = "" }), livelyWith(func(s *impl.Server) { s.Journal += "x" }),
		livelyWith(func(s *impl.Server) { s.Journal = s.Journal[:len(s.Journal)-1] }), livelyWith(func(s *impl.Server) { s.Journal = "x" + s.Journal }),
		livelyWith(func(s *impl.Server) { s.Log[0], s.Log[3] = s.Log[3], s.Log[0] }),
		livelyWith(func(s *impl.Server) { s.Journal += journalOf(s.Log[0]) }),
		livelyWith(func(s *impl.Server) { s.Journal += strings.Repeat("x", 30001-len(s.Journal)) }),
		livelyWith(func(s *impl.Server) { s.Log = append(s.Log, impl.Entry{}) }),
		withLog(lively(), []impl.Entry{{Room: "den", Kind: 1, User: "ann", Nick: "Ann", Num: 2}}),
		// Somebody did something who has no account, or is in a room without a session.
		livelyWith(func(s *impl.Server) { s.Accounts = accountsOf("ann", "bob", "cyd", "eve") }),
		livelyWith(func(s *impl.Server) { s.Accounts = s.Accounts[:3] }),
		livelyWith(func(s *impl.Server) { s.Sess = s.Sess[1:] }), livelyWith(func(s *impl.Server) { s.Sess = s.Sess[:2] }), livelyWith(func(s *impl.Server) { s.Sess = nil }),
		// Too much.
		withLog(lively(), tooFull), withLog(lively(), talked(120)), withLog(lively(), owned(4)),
		livelyWith(func(s *impl.Server) { s.Sess = append(s.Sess, impl.Sess{Link: 12}, impl.Sess{Link: 13}) }),
		// Two that cannot be there at once.
		livelyWith(func(s *impl.Server) { s.Sess[4].Link = 99 }), livelyWith(func(s *impl.Server) { s.Sess[0].Link = 0 }),
		livelyWith(func(s *impl.Server) {
			s.Sess = append(s.Sess, impl.Sess{Link: 12, User: "bob", Stream: s.Sess[3].Stream})
		}),
		livelyWith(func(s *impl.Server) {
			s.Sess = append(s.Sess, impl.Sess{Link: 12, User: "ann", Stream: s.Sess[3].Stream})
		}),
		livelyWith(func(s *impl.Server) {
			s.Sess = append(s.Sess, impl.Sess{Link: 12, User: "cyd", Stream: s.Sess[3].Stream})
		}),
		livelyWith(func(s *impl.Server) {
			s.Sess = append(s.Sess, impl.Sess{Link: -1, User: "ann", On: true, Key: "ann-1"})
		}),
		livelyWith(func(s *impl.Server) { s.Sess[3] = impl.Sess{Link: -1, User: "cyd", On: true, Key: "cyd-0"} }),
		livelyWith(func(s *impl.Server) { s.Sess[3].On, s.Sess[3].Key = true, "cyd-2" }),
	}
	for _, a := range badAccounts {
		list = append(list, impl.Server{Accounts: a})
	}
	for _, key := range []string{"", "ann", "ann-", "ann-00", "ann-01", "ann--1", "ann-+1", "ann-1234567890", "ann-x", "ann-1x", "ann- 1", "ann-1 ", "bob-0", "Ann-0", "0", "-0", "ann0", "xann-0", "ann-0x1", "an-0", "ann-1.0"} {
		list = append(list, livelySess(0, func(x *impl.Sess) { x.Key = key }))
	}
	for _, link := range []int{-2, 100, math.MinInt, math.MaxInt, -1} {
		list = append(list, livelySess(0, func(x *impl.Sess) { x.Link = link }), livelySess(1, func(x *impl.Sess) { x.Link = link }), livelySess(4, func(x *impl.Sess) { x.Link = link }))
	}
	return append(list, sessesNotOk()...)
}

// sessesNotOk is lively servers with one session that is not ok.
func sessesNotOk() []impl.Server {
	var list []impl.Server
	for _, x := range []impl.Stream{{}, {Buf: "<str"}, {State: impl.StreamOff}, {State: impl.StreamBad, Code: 2}, {State: 1, Buf: "x"}, {State: 1, Space: "\x00"}, {State: 1, Code: 2}, {State: 4}} {
		list = append(list, livelySess(0, func(s *impl.Sess) { s.Stream = x }), livelySess(1, func(s *impl.Sess) { s.Stream = x }))
	}
	for _, x := range []impl.Stream{{Buf: "<"}, {State: 1}, {State: 1, Space: "q"}, {State: 2}, {State: 3, Code: 3}, {Space: "q"}, {Code: 1}} {
		list = append(list, livelySess(2, func(s *impl.Sess) { s.Stream = x }))
	}
	for _, x := range []impl.Stream{{State: 2}, {State: 3, Code: 3}, {Buf: " "}, {Space: "q"}} {
		list = append(list, livelySess(4, func(s *impl.Sess) { s.Stream = x }))
	}
	for _, idle := range []int{-1, 4, math.MaxInt} {
		list = append(list, livelySess(2, func(s *impl.Sess) { s.Idle = idle }))
	}
	for _, idle := range []int{-1, 1, 3} {
		list = append(list, livelySess(0, func(s *impl.Sess) { s.Idle = idle }), livelySess(1, func(s *impl.Sess) { s.Idle = idle }), livelySess(4, func(s *impl.Sess) { s.Idle = idle }))
	}
	for _, at := range []int{1, 3, 4} {
		for _, change := range []func(x *impl.Sess){
			func(x *impl.Sess) { x.Key = x.User + "-5" }, func(x *impl.Sess) { x.Told = told(1) }, func(x *impl.Sess) { x.Line.Base = 1 }, func(x *impl.Sess) { x.Line.Got = 1 },
			func(x *impl.Sess) { x.Line.Over = true }, func(x *impl.Sess) { x.Line.Queue = told(1) }, func(x *impl.Sess) { x.Link, x.Stream = -1, impl.Stream{} }, func(x *impl.Sess) { x.On = true },
			func(x *impl.Sess) { x.User = "eve" }, func(x *impl.Sess) { x.User = "Ann" }, func(x *impl.Sess) { x.User = "ann" },
		} {
			list = append(list, livelySess(at, change))
		}
	}
	for _, change := range []func(x *impl.Sess){
		func(x *impl.Sess) { x.Told = told(1001) }, func(x *impl.Sess) { x.Line.Base = 256 }, func(x *impl.Sess) { x.Line.Queue = told(9) }, func(x *impl.Sess) { x.Line.Over = true },
		func(x *impl.Sess) { x.On = false }, func(x *impl.Sess) { x.User = "" }, func(x *impl.Sess) { x.User, x.Key = "", "-0" }, func(x *impl.Sess) { x.User, x.Key = "eve", "eve-0" },
	} {
		list = append(list, livelySess(0, change), livelySess(2, change))
	}
	return list
}

func TestServerOk(t *testing.T) {
	for i, s := range serversOk() {
		if !impl.ServerOk(s) {
			t.Errorf("%d: ServerOk(%+v) is false", i, s)
		}
	}
	for _, at := range []int{0, 2} {
		if s := livelySess(at, func(x *impl.Sess) { x.Told = told(1000) }); !impl.ServerOk(s) {
			t.Error("with ToldMax told it is not ok")
		}
	}
	for i, s := range serversNotOk() {
		if impl.ServerOk(s) {
			t.Errorf("%d: ServerOk(%+v) is true", i, s)
		}
	}
}

func TestOfAServerThatIsNotOkThereIsNothing(t *testing.T) {
	for _, s := range serversNotOk() {
		for _, link := range []int{-1, 0, 4, 11, 50, 99, 100} {
			if got, ok := impl.ServerOpen(s, link); ok || !isNoServer(got) {
				t.Errorf("ServerOpen(%+v, %d) is %+v, %v", s, link, got, ok)
			}
			if got, out := impl.ServerFeed(s, link, "<r/>"); len(out) > 0 || !isNoServer(got) {
				t.Errorf("ServerFeed(%+v, %d) is %+v, %v", s, link, got, out)
			}
			if got, out := impl.ServerCut(s, link); len(out) > 0 || !isNoServer(got) {
				t.Errorf("ServerCut(%+v, %d) is %+v, %v", s, link, got, out)
			}
		}
		if got, out := impl.ServerTick(s); len(out) > 0 || !isNoServer(got) {
			t.Errorf("ServerTick(%+v) is %+v, %v", s, got, out)
		}
	}
}

func TestP45ALinkThatComesIsOneMoreSession(t *testing.T) {
	for i, s := range serversOk() {
		for link := -2; link <= 101; link++ {
			// Links in the middle are asked of the first one alone.
			if i > 0 && 14 < link && link < 98 {
				continue
			}
			got, ok := impl.ServerOpen(s, link)
			taken := slices.ContainsFunc(s.Sess, func(x impl.Sess) bool { return x.Link == link })
			if want := link >= 0 && link <= 99 && !taken && len(s.Sess) < 6; ok != want {
				t.Fatalf("ServerOpen(%+v, %d) is %v", s, link, ok)
			}
			if !ok {
				if !sameServer(got, s) {
					t.Fatalf("ServerOpen(%+v, %d) is %+v, false", s, link, got)
				}
				continue
			}
			want := cloneServer(s)
			want.Sess = append(want.Sess, impl.Sess{Link: link})
			if !sameServer(got, want) || !impl.ServerOk(got) {
				t.Fatalf("ServerOpen(%+v, %d) is %+v", s, link, got)
			}
			if again, ok := impl.ServerOpen(got, link); ok || !sameServer(again, got) {
				t.Fatalf("ServerOpen(%+v, %d) is %+v, %v", got, link, again, ok)
			}
			if back, out := impl.ServerCut(got, link); len(out) > 0 || !sameServer(back, s) {
				t.Fatalf("ServerCut(%+v, %d) is %+v, %v", got, link, back, out)
			}
		}
		for _, link := range []int{math.MinInt, math.MaxInt} {
			if got, ok := impl.ServerOpen(s, link); ok || !sameServer(got, s) {
				t.Errorf("ServerOpen(%+v, %d) is %+v, %v", s, link, got, ok)
			}
		}
	}
}

func TestOpenUpToSessMax(t *testing.T) {
	h := newHub(t, "ann")
	h.open(0, 99, 50, 1, 98, 2)
	h.expectSess("0 99 50 1 98 2")
	for _, link := range []int{3, 0, 2, -1} {
		if s, ok := impl.ServerOpen(h.s, link); ok || !sameServer(s, h.s) {
			t.Errorf("ServerOpen(%+v, %d) is %+v, %v", h.s, link, s, ok)
		}
	}
	h.cut(50)
	h.open(3)
	h.expectSess("0 99 1 98 2 3")
}

// risen is what a server that rises must be: all that is read, and then each who is in a room lost, room by room.
func risen(list []impl.Account, log []impl.Entry, next int) impl.Server {
	var rooms []string
	all := slices.Clone(log)
	for _, e := range log {
		if !slices.Contains(rooms, e.Room) {
			rooms = append(rooms, e.Room)
		}
	}
	for _, name := range rooms {
		r, _ := left(log, name)
		for i, m := range r.Members {
			all = append(all, impl.Entry{Room: name, Seq: r.Next + i, Kind: impl.EntryLeave, User: m.User, Nick: m.Nick, Num: impl.LeaveLost})
		}
	}
	return impl.Server{Accounts: list, Log: all, Journal: journalOf(all...), Next: next}
}

func checkRisen(t *testing.T, list []impl.Account, j string, next int) {
	t.Helper()
	log, _ := impl.JourRead(j)
	up := impl.ServerRise(list, j, next)
	if want := risen(list, log, next); !sameServer(up, want) || !impl.ServerOk(up) {
		t.Fatalf("ServerRise(%q, %d) is %+v, not %+v", j, next, up, want)
	}
	for _, e := range up.Log {
		if r := impl.RoomOf(up.Journal, e.Room); len(r.Members) > 0 {
			t.Fatalf("ServerRise(%q) has %+v", j, r)
		}
	}
	if again := impl.ServerRise(list, up.Journal, next); !sameServer(again, up) {
		t.Fatalf("ServerRise(%q), again, is %+v", j, again)
	}
}

func TestP51AServerThatIsUpAgainKnowsAll(t *testing.T) {
	list := accountsOf("ann", "bob", "cyd", "dan")
	for i := range len(lived()) + 1 {
		for _, tail := range []string{"", "x", "17 4261184165 0|6|den|ann|||||4;", "99 ", record("0|6|x|ann|||||4")[:20]} {
			checkRisen(t, list, journalOf(lived()[:i]...)+tail, i)
		}
	}
	j := journalOf(lived()...)
	for at := range len(j) {
		checkRisen(t, list, j[:at], 9999)
		checkRisen(t, list, j[:at]+"\xff"+j[at+1:], 0)
	}
	// In the order in which rooms began, and members came.
	up := impl.ServerRise(list, j, 5)
	h := &hub{t, up}
	h.expectLog(leaveTold("den", 6, "ann", 3), leaveTold("den", 7, "bob", 3), leaveTold("hall", 5, "bob", 3), leaveTold("hall", 6, "cyd", 3))
}

func TestServerRiseIsNothing(t *testing.T) {
	all := accountsOf("ann", "bob", "cyd", "dan")
	j := journalOf(lived()...)
	for _, next := range []int{-1, 10000, math.MinInt, math.MaxInt} {
		for _, j := range []string{"", j} {
			if up := impl.ServerRise(all, j, next); !isNoServer(up) {
				t.Errorf("ServerRise with %d is %+v", next, up)
			}
		}
	}
	// Somebody has no account, even if they are gone; a rank alone needs none.
	if up := impl.ServerRise(accountsOf("ann", "bob", "cyd"), j, 0); !isNoServer(up) {
		t.Errorf("without dan it is %+v", up)
	}
	checkRisen(t, accountsOf("ann", "bob", "cyd"), journalOf(lived()[:4]...), 0)
	checkRisen(t, accountsOf("zoe"), journalOf(owned(3)...), 0)
	if up := impl.ServerRise(all, journalOf(owned(4)...), 0); !isNoServer(up) {
		t.Errorf("with four rooms it is %+v", up)
	}
	// There must be room for all to leave: two are in den.
	checkRisen(t, all, journalOf(talked(118)...), 0)
	for _, many := range []int{119, 120} {
		if up := impl.ServerRise(all, journalOf(talked(many)...), 0); !isNoServer(up) {
			t.Errorf("behind %d entries it is %+v", many, up)
		}
	}
	// Of JourMax bytes what can be read is read, of more nothing.
	most := j + strings.Repeat(" ", 30000-len(j))
	checkRisen(t, all, most, 1)
	if up := impl.ServerRise(all, most+" ", 1); !isNoServer(up) {
		t.Errorf("of %d bytes it is %+v", len(most)+1, up)
	}
}

// textsOfServer is all texts of a server, a list for each of its lists.
func textsOfServer(s impl.Server) [][]string {
	lists := [][]string{textsOfEntries(s.Log...), {s.Journal}}
	for _, a := range s.Accounts {
		lists = append(lists, []string{a.User, a.Pass})
	}
	for _, x := range s.Sess {
		lists = append(lists, []string{x.User, x.Stream.Buf, x.Stream.Space, x.Key}, x.Line.Queue, x.Told)
	}
	return lists
}

// spacious is a server whose lists have spare room behind them, in which marks stand.
func spacious(s impl.Server) impl.Server {
	s.Accounts = append(slices.Clone(s.Accounts), impl.Account{User: "mark"})[:len(s.Accounts)]
	s.Log = append(slices.Clone(s.Log), impl.Entry{Room: "mark"})[:len(s.Log)]
	s.Sess = append(slices.Clone(s.Sess), impl.Sess{Key: "mark"})[:len(s.Sess)]
	for i := range s.Sess {
		x := &s.Sess[i]
		x.Told = append(slices.Clone(x.Told), "mark")[:len(x.Told)]
		x.Line.Queue = append(slices.Clone(x.Line.Queue), "mark")[:len(x.Line.Queue)]
	}
	return s
}

func spareStands(s impl.Server) bool {
	ok := s.Accounts[:len(s.Accounts)+1][len(s.Accounts)].User == "mark" && s.Log[:len(s.Log)+1][len(s.Log)].Room == "mark" && s.Sess[:len(s.Sess)+1][len(s.Sess)].Key == "mark"
	for _, x := range s.Sess {
		ok = ok && x.Told[:len(x.Told)+1][len(x.Told)] == "mark" && x.Line.Queue[:len(x.Line.Queue)+1][len(x.Line.Queue)] == "mark"
	}
	return ok
}

// scribble changes all that a server's lists hold, spare room included.
func scribble(s impl.Server, out []impl.Out) {
	clear(s.Accounts[:cap(s.Accounts)])
	clear(s.Log[:cap(s.Log)])
	for _, x := range s.Sess {
		clear(x.Told[:cap(x.Told)])
		clear(x.Line.Queue[:cap(x.Line.Queue)])
	}
	clear(s.Sess[:cap(s.Sess)])
	clear(out[:cap(out)])
}

func TestServerSharesNoMemory(t *testing.T) {
	bytes := "<presence to='nook@rooms.local/Nn'/><zz/><message id='q' to='den@rooms.local' type='groupchat'><body>hi</body></message><iq id='q' to='den@rooms.local' type='get'><page max='4'/></iq><a h='255'/><presence to='de"
	for name, do := range map[string]func(s impl.Server) (impl.Server, []impl.Out){
		"new":   func(s impl.Server) (impl.Server, []impl.Out) { return impl.ServerNew(s.Accounts), nil },
		"open":  func(s impl.Server) (impl.Server, []impl.Out) { x, _ := impl.ServerOpen(s, 7); return x, nil },
		"taken": func(s impl.Server) (impl.Server, []impl.Out) { x, _ := impl.ServerOpen(s, 4); return x, nil },
		"ann":   func(s impl.Server) (impl.Server, []impl.Out) { return impl.ServerFeed(s, 4, bytes) },
		"bob":   func(s impl.Server) (impl.Server, []impl.Out) { return impl.ServerFeed(s, 0, "/>"+bytes) },
		"resume": func(s impl.Server) (impl.Server, []impl.Out) {
			return impl.ServerFeed(s, 99, "<resume h='0' id='cyd-1'/>"+bytes)
		},
		"enable": func(s impl.Server) (impl.Server, []impl.Out) { return impl.ServerFeed(s, 99, "<enable/>"+bytes) },
		"nobody": func(s impl.Server) (impl.Server, []impl.Out) {
			return impl.ServerFeed(s, 11, "eam xmlns='urn:q'>"+authText("dan")+"<enable/>"+bytes)
		},
		"no link": func(s impl.Server) (impl.Server, []impl.Out) { return impl.ServerFeed(s, 12, bytes) },
		"cut":     func(s impl.Server) (impl.Server, []impl.Out) { return impl.ServerCut(s, 4) },
		"cut bob": func(s impl.Server) (impl.Server, []impl.Out) { return impl.ServerCut(s, 0) },
		"tick":    impl.ServerTick,
		"ticks":   func(s impl.Server) (impl.Server, []impl.Out) { s.Sess[2].Idle = 3; return impl.ServerTick(s) },
		"rise":    func(s impl.Server) (impl.Server, []impl.Out) { return impl.ServerRise(s.Accounts, s.Journal, 1), nil },
	} {
		s := spacious(lively())
		got, out := do(s)
		was, texts := cloneServer(s), slices.Concat(textsOfServer(s)...)
		lists := append(textsOfServer(got), nil)
		for _, o := range out {
			lists[len(lists)-1] = append(lists[len(lists)-1], o.Text)
		}
		for i, list := range lists {
			for _, text := range texts {
				checkOwn(t, text, list...)
			}
			checkOwn(t, bytes, list...)
			for _, other := range lists[:i] {
				if shareText(list, other) {
					t.Errorf("%s: %q and %q share a text", name, list, other)
				}
			}
		}
		scribble(got, out)
		if !sameServer(s, was) || !spareStands(s) {
			t.Errorf("%s: a server shares memory with what it was", name)
		}
	}
}
