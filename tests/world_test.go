package tests

import (
	"fmt"
	"math"
	"slices"
	"strings"
	"testing"

	"loop.example/hubbub/impl"
)

// The numbers are the document's: other tests take them by name.
func TestWorldNumbers(t *testing.T) {
	got := []int{impl.WorldOpen, impl.WorldBack, impl.WorldSay, impl.WorldHear, impl.WorldCut, impl.WorldTick, impl.WorldFall, impl.WorldAck, impl.PlayMax}
	if !slices.Equal(got, []int{1, 2, 3, 4, 5, 6, 7, 8, 60}) {
		t.Error(got)
	}
}

func TestP52InANewWorldNobodyHasALink(t *testing.T) {
	for _, list := range goodAccounts {
		w := impl.WorldNew(list)
		want := impl.World{Server: impl.ServerNew(list)}
		for range list {
			want.Clients = append(want.Clients, impl.Client{Link: -1})
		}
		if !sameWorld(w, want) || !impl.WorldOk(w) || !impl.WorldSafe(w) {
			t.Errorf("WorldNew(%v) is %+v", list, w)
		}
		if got := impl.WorldPlay(list, nil); !sameWorld(got, w) {
			t.Errorf("WorldPlay(%v) is %+v", list, got)
		}
	}
	for _, list := range badAccounts {
		if w := impl.WorldNew(list); !isNoWorld(w) || impl.WorldOk(w) || impl.WorldSafe(w) {
			t.Errorf("WorldNew(%v) is %+v", list, w)
		}
		if w := impl.WorldPlay(list, []impl.Event{{Kind: impl.WorldOpen}, {Kind: impl.WorldTick}}); !isNoWorld(w) {
			t.Errorf("WorldPlay(%v) is %+v", list, w)
		}
	}
}

// livelyWorld is a world with each kind of client: ann has counts, bob a link alone, cyd a link and a session to be gone on with, dan a link that no session has; and a session has a link that no client has.
func livelyWorld() impl.World {
	s := lively()
	s.Sess[3].Link = 9
	return impl.World{Server: s, Links: 12, Clients: []impl.Client{
		{Link: 4, Count: 254, Got: []string{"w"}, Key: "ann-0", Air: []impl.Out{{Link: 4, Text: "<success/>"}, {Link: 4, Text: "x", Count: true}, {Link: 4, Text: "y", Count: true}}},
		{Link: 0},
		{Link: 9, Key: "cyd-1", Air: []impl.Out{{Link: 9, Text: "<failed code='11'/>"}}},
		{Link: 7, Count: 2, Got: []string{entryTold(s.Log[0]), "v"}, Key: "dan-1", Air: []impl.Out{{Link: 7, Text: streamEnded}}},
	}}
}

func worldWith(change func(w *impl.World)) impl.World {
	w := cloneWorld(livelyWorld())
	change(&w)
	return w
}

// worldClient is a lively world with a client that is changed.
func worldClient(at int, change func(c *impl.Client)) impl.World {
	return worldWith(func(w *impl.World) { change(&w.Clients[at]) })
}

// airOf is so many texts, under way by a link.
func airOf(link, many int, count bool) []impl.Out {
	var list []impl.Out
	for _, text := range told(many) {
		list = append(list, impl.Out{Link: link, Text: text, Count: count})
	}
	return list
}

func worldsOk() []impl.World {
	list := []impl.World{
		livelyWorld(),
		impl.WorldNew(accountsOf("a")),
		worldWith(func(w *impl.World) { w.Links = 100 }),
		worldWith(func(w *impl.World) { w.Links, w.Server.Sess[4].Link = 100, 99 }),
		worldWith(func(w *impl.World) { w.Links, w.Clients[3] = 100, impl.Client{Link: 99} }),
		worldWith(func(w *impl.World) { w.Clients[3] = impl.Client{Link: 11} }),
		worldWith(func(w *impl.World) { w.Clients[2], w.Clients[3] = impl.Client{Link: -1}, impl.Client{Link: -1} }),
		worldWith(func(w *impl.World) {
			w.Links, w.Server = 8, impl.ServerNew(w.Server.Accounts)
			w.Clients[2].Link = 1
			w.Clients[2].Air = nil
		}),
		worldWith(func(w *impl.World) { w.Server.Sess[0].Told = told(1000) }),
	}
	for _, change := range []func(c *impl.Client){
		func(c *impl.Client) { c.Count = 0 }, func(c *impl.Client) { c.Count = 255 }, func(c *impl.Client) { c.Key = "" }, func(c *impl.Client) { c.Key = "dan-123456789" }, func(c *impl.Client) { c.Key = "dan-0" },
		func(c *impl.Client) { c.Air = airOf(7, 1000, true) }, func(c *impl.Client) { c.Got = told(1000) }, func(c *impl.Client) { c.Air, c.Got = airOf(7, 1000, false), told(1000) },
		func(c *impl.Client) { c.Air[0].Text = strings.Repeat("x", 3000) }, func(c *impl.Client) { c.Air[0].Text = "\xff" }, func(c *impl.Client) { c.Got[0] = strings.Repeat("x", 3001) },
		func(c *impl.Client) { c.Link, c.Air = -1, nil }, func(c *impl.Client) { c.Link, c.Air = 1, nil },
	} {
		list = append(list, worldClient(3, change))
	}
	return list
}

func worldsNotOk() []impl.World {
	list := []impl.World{
		{}, {Links: 1}, {Clients: []impl.Client{{}}}, {Server: impl.ServerNew(accountsOf("a"))},
		worldWith(func(w *impl.World) { w.Clients = w.Clients[:3] }), worldWith(func(w *impl.World) { w.Clients = append(w.Clients, impl.Client{Link: -1}) }), worldWith(func(w *impl.World) { w.Clients = nil }),
		// Links that were not yet there, or are somebody's already.
		worldWith(func(w *impl.World) { w.Links = 101 }), worldWith(func(w *impl.World) { w.Links = 11 }), worldWith(func(w *impl.World) { w.Links = 0 }), worldWith(func(w *impl.World) { w.Links = -1 }),
		worldWith(func(w *impl.World) { w.Links = math.MaxInt }), worldWith(func(w *impl.World) { w.Links = math.MinInt }),
		{Server: impl.ServerNew(accountsOf("a")), Clients: []impl.Client{{Link: -1}}, Links: -1},
		{Server: impl.ServerNew(accountsOf("a")), Clients: []impl.Client{{Link: -1}}, Links: 101},
		{Server: impl.ServerNew(accountsOf("a")), Clients: []impl.Client{{Link: 0}}},
		worldWith(func(w *impl.World) { w.Clients[3] = impl.Client{Link: 12} }), worldWith(func(w *impl.World) { w.Clients[3] = impl.Client{Link: 4} }), worldWith(func(w *impl.World) { w.Clients[3] = impl.Client{Link: 9} }),
		worldWith(func(w *impl.World) { w.Clients[3] = impl.Client{Link: -2} }), worldWith(func(w *impl.World) { w.Clients[3] = impl.Client{Link: math.MinInt} }), worldWith(func(w *impl.World) { w.Clients[3] = impl.Client{Link: math.MaxInt} }),
		worldWith(func(w *impl.World) { w.Clients[0] = impl.Client{Link: 0} }),
		// A client's session is not that of another one.
		worldWith(func(w *impl.World) { slices.Reverse(w.Clients) }),
	}
	for _, change := range []func(c *impl.Client){
		func(c *impl.Client) { c.Count = -1 }, func(c *impl.Client) { c.Count = 256 }, func(c *impl.Client) { c.Count = math.MinInt },
		func(c *impl.Client) { c.Air = airOf(7, 1001, true) }, func(c *impl.Client) { c.Got = told(1001) },
		func(c *impl.Client) { c.Air[0].Text = strings.Repeat("x", 3001) }, func(c *impl.Client) { c.Air = append(c.Air, impl.Out{Link: 7, Text: strings.Repeat("x", 3001)}) },
		func(c *impl.Client) { c.Air[0].Link = 4 }, func(c *impl.Client) { c.Air[0].Link = -1 }, func(c *impl.Client) { c.Air = append(c.Air, impl.Out{Link: 8}) },
		func(c *impl.Client) { c.Link = -1 }, func(c *impl.Client) { c.Link, c.Air = -1, []impl.Out{{Link: -1}} }, func(c *impl.Client) { c.Link = 1 },
	} {
		list = append(list, worldClient(3, change))
	}
	for _, key := range []string{"dan", "dan-", "dan-00", "dan-01", "dan--1", "dan-1234567890", "dan-x", "dan-1 ", "ann-0", "cyd-1", "Dan-0", "0", "-0", " ", "xdan-0"} {
		list = append(list, worldClient(3, func(c *impl.Client) { c.Key = key }))
	}
	for _, s := range serversNotOk() {
		w := impl.World{Server: s, Links: 100}
		for range s.Accounts {
			w.Clients = append(w.Clients, impl.Client{Link: -1})
		}
		list = append(list, w)
	}
	return list
}

func TestWorldOk(t *testing.T) {
	for _, w := range worldsOk() {
		if !impl.WorldOk(w) {
			t.Errorf("not ok: %+v", w)
		}
	}
	for _, s := range serversOk() {
		w := impl.World{Server: s, Links: 100}
		for range s.Accounts {
			w.Clients = append(w.Clients, impl.Client{Link: -1})
		}
		if !impl.WorldOk(w) || impl.WorldOk(impl.World{Server: s, Links: 100}) {
			t.Errorf("not ok: %+v", w)
		}
	}
	for _, w := range worldsNotOk() {
		if impl.WorldOk(w) {
			t.Errorf("ok: %+v", w)
		}
	}
}

func TestOfAWorldThatIsNotOkThereIsNothing(t *testing.T) {
	for _, w := range worldsNotOk() {
		if impl.WorldSafe(w) {
			t.Errorf("safe: %+v", w)
		}
		for kind := range 10 {
			if got, ok := impl.WorldDo(w, impl.Event{Kind: kind, At: 3}); ok || !isNoWorld(got) {
				t.Errorf("WorldDo(%+v, %d) is %+v, %v", w, kind, got, ok)
			}
		}
		for i := range 6 {
			if told, all := impl.WorldTold(w, i, "den"); len(told) > 0 || len(all) > 0 {
				t.Errorf("WorldTold(%+v, %d) is %q, %q", w, i, told, all)
			}
		}
	}
}

// someEvents is an event of each kind, and some of none, of a client.
func someEvents(at int) []impl.Event {
	var list []impl.Event
	for _, num := range []int{math.MinInt, -1, 0, 1, 2, 3, 9, math.MaxInt} {
		for _, kind := range []int{math.MinInt, -1, 0, 1, 2, 3, 4, 5, 6, 7, 8, 9, math.MaxInt} {
			list = append(list, impl.Event{Kind: kind, At: at, Num: num, Text: talkText("den", "m", "x")})
		}
	}
	return list
}

func TestP53WhateverHappensAWorldStaysOk(t *testing.T) {
	for _, w := range worldsOk() {
		for at := range w.Clients {
			for _, e := range someEvents(at) {
				(&scene{t, cloneWorld(w)}).try(e)
			}
		}
	}
	d := newDice()
	can := [2][9]int{}
	for range 60 {
		p := newTroupe(t, d)
		for range 60 {
			e := p.event(false)
			if ok := p.try(e); e.Kind >= 1 && e.Kind <= 8 {
				can[map[bool]int{true: 1}[ok]][e.Kind]++
			}
		}
	}
	if slices.Min(can[0][1:6]) < 4 || slices.Min(can[1][1:]) < 4 {
		t.Error(can)
	}
}

func TestAtMustBeAClient(t *testing.T) {
	for _, at := range []int{-1, 4, 5, math.MinInt, math.MaxInt} {
		for _, e := range someEvents(at) {
			s := &scene{t, livelyWorld()}
			s.not(e.Kind, e.At, e.Num, e.Text)
		}
	}
	one := newScene(t, "ann")
	for kind := range 10 {
		one.not(kind, 1, 0, "")
		one.not(kind, -1, 0, "")
	}
	one.open(0)
}

// canOf is an event of each kind that can be in a lively world.
func canOf() []impl.Event {
	return []impl.Event{
		{Kind: impl.WorldSay, At: 0}, {Kind: impl.WorldAck, At: 0}, {Kind: impl.WorldHear, At: 3}, {Kind: impl.WorldCut, At: 1}, {Kind: impl.WorldTick, At: 2}, {Kind: impl.WorldFall, At: 1},
		{Kind: impl.WorldOpen, At: 3}, {Kind: impl.WorldBack, At: 3},
	}
}

// danAway is a lively world in which dan has no link.
func danAway() impl.World {
	return worldClient(3, func(c *impl.Client) { c.Link, c.Air = -1, nil })
}

func TestEventsOfAnyKindHaveLimits(t *testing.T) {
	for _, e := range canOf() {
		w := livelyWorld()
		if e.Kind <= impl.WorldBack {
			w = danAway()
		}
		e.Text = strings.Repeat(" ", 2000)
		(&scene{t, cloneWorld(w)}).do(e.Kind, e.At, e.Num, e.Text)
		(&scene{t, cloneWorld(w)}).not(e.Kind, e.At, e.Num, e.Text+" ")
		(&scene{t, cloneWorld(w)}).not(e.Kind, e.At, e.Num, strings.Repeat(" ", 5000))
		// Whichever session was told too much.
		for _, at := range []int{0, 2} {
			s := &scene{t, cloneWorld(w)}
			s.w.Server.Sess[at].Told = told(400)
			s.fork().do(e.Kind, e.At, e.Num, e.Text)
			s.w.Server.Sess[at].Told = told(401)
			s.not(e.Kind, e.At, e.Num, e.Text)
			s.w.Server.Sess[at].Told = told(1000)
			s.not(e.Kind, e.At, e.Num, e.Text)
		}
		for next, can := range map[int]bool{0: true, 9898: true, 9899: false, 9900: false, 9999: false} {
			s := &scene{t, cloneWorld(w)}
			s.w.Server.Next = next
			if e := e; s.try(e) != can {
				t.Errorf("with the key %d next, %+v can be: %v", next, e, !can)
			}
		}
	}
}

// Kinds that do not ask for Num do not look at it.
func TestNumOfEvents(t *testing.T) {
	for _, e := range canOf() {
		w := livelyWorld()
		if e.Kind <= impl.WorldBack {
			w = danAway()
		}
		asks := slices.Contains([]int{impl.WorldHear, impl.WorldCut, impl.WorldFall}, e.Kind)
		for _, num := range []int{-1, math.MinInt} {
			if e.Num = num; (&scene{t, cloneWorld(w)}).try(e) == asks {
				t.Errorf("%+v can be: %v", e, asks)
			}
		}
		for _, num := range []int{0, 1, 99999, math.MaxInt} {
			(&scene{t, cloneWorld(w)}).do(e.Kind, e.At, num, "")
		}
	}
}

// Who has a link, who has none, and who has one that no session has.
func TestEachKindWithALinkAndWithout(t *testing.T) {
	whole, lost, gone := "with a link", "without a link", "with a link of no session"
	can := map[string][]int{
		whole: {impl.WorldSay, impl.WorldHear, impl.WorldCut, impl.WorldTick, impl.WorldFall, impl.WorldAck},
		lost:  {impl.WorldOpen, impl.WorldBack, impl.WorldTick, impl.WorldFall},
		gone:  {impl.WorldHear, impl.WorldCut, impl.WorldTick, impl.WorldFall},
	}
	for name, kinds := range can {
		s := newScene(t, "ann", "bob")
		s.enter(0, 1)
		switch name {
		case lost:
			s.cut(0, 9)
		case gone:
			s.say(0, "</stream>")
		}
		for kind := -1; kind <= 10; kind++ {
			if ok := s.fork().try(impl.Event{Kind: kind, Num: 2, Text: talkText("den", "m", "x")}); ok != slices.Contains(kinds, kind) {
				t.Errorf("%s an event of the kind %d can be: %v", name, kind, ok)
			}
		}
	}
}

// A session without a link is not that of a client that has none.
func TestWithoutALinkNobodySaysAnything(t *testing.T) {
	s := newScene(t, "ann", "bob")
	s.enter(0)
	s.cut(0, 0)
	s.expectSess("-1+ann")
	for _, kind := range []int{impl.WorldSay, impl.WorldAck, impl.WorldHear, impl.WorldCut} {
		s.not(kind, 0, 0, talkText("den", "m", "x"))
		s.not(kind, 1, 0, "")
	}
	log := len(s.w.Server.Log)
	s.do(impl.WorldFall, 0, 999, talkText("den", "m", "x"))
	s.expectLog(joinTold("den", 1, "ann", 3), leaveTold("den", 2, "ann", 3))
	if len(s.w.Server.Log) != log+1 {
		t.Error(s.w.Server.Log)
	}
}

func TestOpen(t *testing.T) {
	s := newScene(t, "ann", "bob")
	s.open(1)
	s.expectClient(1, 0, "", 0)
	s.expectAir(1, streamBegun, "<success/>", "<enabled id='bob-0'/>")
	s.expectSess("0+bob")
	s.open(0)
	s.expectAir(0, streamBegun, "<success/>", "<enabled id='ann-1'/>")
	s.expectAir(1, streamBegun, "<success/>", "<enabled id='bob-0'/>")
	s.expectSess("0+bob 1+ann")
	s.hear(1, 2)
	s.expectClient(1, 0, "", 0)
	s.hear(1, 1)
	s.expectClient(1, 0, "bob-0", 0)
	s.expectClient(0, 1, "", 0)
	s.not(impl.WorldOpen, 1, 0, "")
	s.not(impl.WorldBack, 1, 0, "")
	// A link that was lost is not had again.
	s.cut(1, 0)
	s.open(1)
	s.expectClient(1, 2, "bob-0", 0)
	s.expectSess("1+ann 2+bob")
	if s.w.Links != 3 {
		t.Error(s.w.Links)
	}
}

// What lets somebody in may have signs that are written otherwise.
func TestOpenWithAnyPass(t *testing.T) {
	for _, pass := range []string{"'", "<&>\"'", "!~", "&amp;"} {
		w, ok := impl.WorldDo(impl.WorldNew([]impl.Account{{User: "ann", Pass: pass}}), impl.Event{Kind: impl.WorldOpen})
		if !ok || len(w.Server.Sess) != 1 || w.Server.Sess[0].User != "ann" || !w.Server.Sess[0].On {
			t.Errorf("with %q it is %+v, %v", pass, w, ok)
		}
	}
}

func TestOpenUpToLinkMax(t *testing.T) {
	for _, kind := range []int{impl.WorldOpen, impl.WorldBack} {
		s := newScene(t, "ann", "bob")
		s.w.Links = 99
		s.do(kind, 1, 0, "")
		s.expectClient(1, 99, "", 0)
		if s.w.Links != 100 {
			t.Error(s.w.Links)
		}
		s.not(kind, 0, 0, "")
		s.say(1, "<r/>")
		s.cut(1, 0)
		s.not(kind, 1, 0, "")
	}
}

func TestOpenUpToSessMaxSessions(t *testing.T) {
	for _, kind := range []int{impl.WorldOpen, impl.WorldBack} {
		s := &scene{t, danAway()}
		s.fork().do(kind, 3, 0, "")
		s.w.Server.Sess = append(s.w.Server.Sess, impl.Sess{Link: 10})
		s.not(kind, 3, 0, "")
		s.cut(2, 0)
		s.do(kind, 3, 0, "")
	}
	// Users whose key is an old one have two sessions each.
	s := newScene(t, "ann", "bob", "cyd", "dan")
	for at := range 3 {
		s.open(at)
		s.hear(at, 3)
		s.cut(at, 0)
		s.open(at)
		s.cut(at, 0)
		s.back(at)
		s.expectAir(at, streamBegun, "<success/>", "<failed code='11'/>")
	}
	s.expectSess("-1+ann 2ann -1+bob 5bob -1+cyd 8cyd")
	s.not(impl.WorldOpen, 3, 0, "")
	s.not(impl.WorldBack, 3, 0, "")
	s.cut(0, 0)
	s.open(3)
}

// Somebody else's link that has the account of a client: it is not let in.
func TestOpenOfWhoIsThereAlready(t *testing.T) {
	s := &scene{t, worldWith(func(w *impl.World) { w.Clients[1] = impl.Client{Link: -1}; w.Links = 12 })}
	s.open(1)
	s.expectAir(1, streamBegun, "<failure/>", "<failure/>")
	s.expectSess("4+ann 0bob -1+cyd 9cyd 11 12")
}

func TestBack(t *testing.T) {
	ready := func() *scene {
		s := newScene(t, "ann", "bob")
		s.enter(0, 1)
		s.hear(0, 9)
		s.hear(1, 9)
		s.expectClient(1, 1, "bob-1", 1, joinTold("den", 2, "bob", 2))
		return s
	}
	s := ready()
	s.cut(1, 0)
	s.say(0, talkText("den", "m", "x"))
	s.say(0, talkText("den", "n", "y"))
	s.expectClient(1, -1, "bob-1", 1, joinTold("den", 2, "bob", 2))
	came := s.fork()
	came.back(1)
	came.expectAir(1, streamBegun, "<success/>", "<resumed h='1' id='bob-1'/>", "+"+talkTold("den", 3, "ann", "m", "x"), "+"+talkTold("den", 4, "ann", "n", "y"))
	came.expectSess("0+ann 2+bob")
	came.hear(1, 9)
	came.expectClient(1, 2, "bob-1", 3, joinTold("den", 2, "bob", 2), talkTold("den", 3, "ann", "m", "x"), talkTold("den", 4, "ann", "n", "y"))
	// It does not come back, but opens anew: the session ends.
	anew := s.fork()
	anew.open(1)
	anew.expectAir(1, streamBegun, "<success/>", leaveTold("den", 5, "bob", 3), "<enabled id='bob-2'/>")
	anew.expectSess("0+ann 2+bob")
	anew.expectLog(leaveTold("den", 5, "bob", 3))
	anew.hear(1, 9)
	anew.expectClient(1, 2, "bob-2", 0)
	// The session has gone.
	late := s.fork()
	for range 4 {
		late.tick()
	}
	late.back(1)
	late.expectAir(1, streamBegun, "<success/>", "<failed code='11'/>")
	late.expectSess("0+ann 2bob")
	late.hear(1, 9)
	late.expectClient(1, 2, "bob-1", 1, joinTold("den", 2, "bob", 2))
	// It is over.
	over := s.fork()
	for i := range 7 {
		over.say(0, talkText("den", fmt.Sprint(i), "z"))
	}
	over.back(1)
	over.expectAir(1, streamBegun, "<success/>", "<failed code='11'/>")
	over.expectSess("0+ann -1+bob 2bob")
	over.hear(1, 9)
	over.expectClient(1, 2, "bob-1", 1, joinTold("den", 2, "bob", 2))
	for _, x := range []*scene{s, came, anew, late, over} {
		x.expectSafe()
	}
}

func TestBackWithoutAKey(t *testing.T) {
	s := newScene(t, "ann")
	s.back(0)
	s.expectAir(0, streamBegun, "<success/>", "<enabled id='ann-0'/>")
	// It never heard its key.
	s.cut(0, 2)
	s.back(0)
	s.expectAir(0, streamBegun, "<success/>", "<enabled id='ann-1'/>")
	s.expectSess("1+ann")
}

// What was lost of an answer to an enable: the key is the one ahead of it, whose session has ended.
func TestBackWithTheKeyOfAnEarlierSession(t *testing.T) {
	s := newScene(t, "ann")
	s.enter(0)
	s.hear(0, 1)
	s.cut(0, 0)
	s.open(0)
	s.cut(0, 2)
	s.expectClient(0, -1, "ann-0", 1, joinTold("den", 1, "ann", 3))
	s.back(0)
	s.expectAir(0, streamBegun, "<success/>", "<failed code='11'/>")
	s.expectSess("-1+ann 2ann")
	s.expectSafe()
}

// From the key 1000 on a key of the longest name is no word: it cannot be said, so nothing is said of it.
func TestBackWithAKeyThatIsNoWord(t *testing.T) {
	s := newScene(t, "abcdefgh")
	s.w.Server.Next = 1000
	s.open(0)
	s.hear(0, 9)
	s.expectClient(0, 0, "abcdefgh-1000", 0)
	s.cut(0, 0)
	got, ok := impl.WorldDo(s.w, impl.Event{Kind: impl.WorldBack})
	s.w = got
	if !ok {
		t.Fatal(got)
	}
	s.expectAir(0, streamBegun, "<success/>")
	s.expectSess("-1+abcdefgh 1abcdefgh")
}

func TestSay(t *testing.T) {
	s := newScene(t, "ann", "bob", "cyd")
	s.enter(0, 1)
	s.open(2)
	s.hear(0, 9)
	s.hear(1, 9)
	s.hear(2, 9)
	s.say(0, "<r/>"+talkText("den", "m", "x")+"<zz/>")
	s.expectAir(0, "<a h='1'/>", "+"+talkTold("den", 3, "ann", "m", "x"), "+<error code='1'/>")
	s.expectAir(1, "+"+talkTold("den", 3, "ann", "m", "x"))
	s.expectAir(2)
	// Byte by byte.
	for _, c := range leaveText("den") {
		s.say(1, string(c))
	}
	s.say(1, "")
	s.expectAir(0, "<a h='1'/>", "+"+talkTold("den", 3, "ann", "m", "x"), "+<error code='1'/>", "+"+leaveTold("den", 4, "bob", 0))
	s.expectAir(1, "+"+talkTold("den", 3, "ann", "m", "x"), "+"+leaveTold("den", 4, "bob", 0))
	s.say(0, "x")
	s.expectClient(0, 0, "ann-0", 2, joinTold("den", 1, "ann", 3), joinTold("den", 2, "bob", 2))
	if air := s.w.Clients[0].Air; air[len(air)-1].Text != streamEnded || air[len(air)-2].Text != "<broken code='2'/>" {
		t.Error(air)
	}
	s.expectSess("1+bob 2+cyd")
	s.not(impl.WorldSay, 0, 0, "<r/>")
	s.hear(0, 99)
	s.cut(0, 0)
	s.expectSafe()
}

func TestAckOfAClient(t *testing.T) {
	s := newScene(t, "ann", "bob")
	s.enter(0, 1)
	s.hear(0, 1)
	if line := s.w.Server.Sess[0].Line; len(line.Queue) != 2 {
		t.Fatal(line)
	}
	// What the event says is not asked for.
	s.do(impl.WorldAck, 0, -7, "<zz/>")
	if line := s.w.Server.Sess[0].Line; line.Base != 1 || len(line.Queue) != 1 {
		t.Error(line)
	}
	s.expectAir(0, "+"+joinTold("den", 2, "bob", 2))
	s.ack(0)
	s.hear(0, 1)
	s.ack(0)
	if line := s.w.Server.Sess[0].Line; line.Base != 2 || len(line.Queue) != 0 {
		t.Error(line)
	}
	s.expectAir(0)
	// Who has no counts is told so.
	s.cut(1, 9)
	for range 4 {
		s.tick()
	}
	s.back(1)
	s.hear(1, 9)
	s.ack(1)
	s.expectAir(1, "<error code='1'/>")
	s.expectSafe()
}

// A count that is of an earlier session, as the key of the one that begins is still under way.
func TestAckAheadOfTheKey(t *testing.T) {
	s := newScene(t, "ann")
	s.enter(0)
	s.hear(0, 1)
	s.cut(0, 0)
	s.open(0)
	early := s.fork()
	early.ack(0)
	early.expectAir(0, streamBegun, "<success/>", leaveTold("den", 2, "ann", 3), "<enabled id='ann-1'/>", "<broken code='4'/>", streamEnded)
	early.expectSess("")
	s.hear(0, 4)
	s.ack(0)
	s.expectSess("1+ann")
	s.expectAir(0)
}

// Likewise, where that count can be: what waits goes, though it did not come. If it is lost then, nobody has it any more, so what came is not all that was told.
func TestAckAheadOfTheKeyThatIsTaken(t *testing.T) {
	s := newScene(t, "ann")
	s.enter(0)
	s.hear(0, 1)
	s.cut(0, 0)
	s.open(0)
	s.say(0, joinText("den", "Ann"))
	late := s.fork()
	s.ack(0)
	if line := s.w.Server.Sess[0].Line; line.Base != 1 || len(line.Queue) != 0 {
		t.Error(line)
	}
	s.hear(0, 4)
	s.expectSafe()
	s.cut(0, 0)
	s.expectClient(0, -1, "ann-1", 0)
	if impl.WorldSafe(s.w) {
		t.Errorf("safe: %+v", s.w)
	}
	// Behind the key the count is that of its session.
	late.hear(0, 4)
	late.ack(0)
	late.cut(0, 0)
	late.expectSafe()
	late.back(0)
	late.hear(0, 9)
	late.expectClient(0, 2, "ann-1", 1, joinTold("den", 3, "ann", 3))
	late.expectSafe()
}

func TestHear(t *testing.T) {
	s := newScene(t, "ann")
	s.enter(0)
	s.say(0, talkText("den", "m", "x")+"<r/>"+talkText("den", "n", "y"))
	texts := []string{joinTold("den", 1, "ann", 3), talkTold("den", 2, "ann", "m", "x"), "<a h='2'/>", talkTold("den", 3, "ann", "n", "y")}
	s.expectAir(0, "+"+texts[0], "+"+texts[1], texts[2], "+"+texts[3])
	s.hear(0, 0)
	s.expectClient(0, 0, "ann-0", 0)
	s.hear(0, 1)
	s.expectClient(0, 0, "ann-0", 1, texts[0])
	s.hear(0, 2)
	s.expectClient(0, 0, "ann-0", 2, texts[0], texts[1])
	s.expectAir(0, "+"+texts[3])
	s.hear(0, math.MaxInt)
	s.expectClient(0, 0, "ann-0", 3, texts[0], texts[1], texts[3])
	s.expectAir(0)
	s.hear(0, 5)
	s.hear(0, 0)
	s.not(impl.WorldHear, 0, -1, "")
	// A stream that has ended is still heard.
	s.say(0, "</stream>")
	s.hear(0, 1)
	s.expectAir(0)
}

// A client with a link, to which one thing is under way.
func withAir(text string, count bool) impl.World {
	return worldClient(3, func(c *impl.Client) { c.Air = []impl.Out{{Link: 7, Text: text, Count: count}} })
}

func TestAKeyThatComes(t *testing.T) {
	was := livelyWorld().Clients[3]
	for text, key := range map[string]string{
		"<enabled id='dan-5'/>": "dan-5", "<enabled id=\"dan-0\"></enabled>": "dan-0", "<enabled a='b' id='dan-999999999' z=''><x/>y</enabled>": "dan-999999999", "<enabled id='dan-1'/>": "dan-1",
		"<enabled id='&#100;an-7'/>": "dan-7", "<enabled id='dan-7' xmlns='urn:q'/>": "dan-7",
		// These are no keys.
		"<enabled id=''/>": "", "<enabled/>": "", "<enabled id='dan-5'": "", "<enabled id='dan-5'>": "", " <enabled id='dan-5'/>": "", "<enabled id='dan-5'/> ": "", "<enable id='dan-5'/>": "", "<x id='dan-5'/>": "",
		"<x><enabled id='dan-5'/></x>": "", "<enabled key='dan-5'/>": "", "<resumed id='dan-5'/>": "", "": "", "dan-5": "", "<Enabled id='dan-5'/>": "", "<enabled><x id='dan-5'/></enabled>": "",
		"<enabled a='" + strings.Repeat("x", 700) + "' id='dan-5'/>": "",
	} {
		for _, count := range []bool{false, true} {
			s := &scene{t, withAir(text, count)}
			s.hear(3, 1)
			switch {
			case key != "":
				s.expectClient(3, 7, key, 0)
			case count:
				s.expectClient(3, 7, "dan-1", 3, append(slices.Clone(was.Got), text)...)
			default:
				s.expectClient(3, 7, "dan-1", 2, was.Got...)
			}
			s.expectAir(3)
		}
	}
	// What would be no key of the client's account cannot come, as the world would not be ok.
	for _, key := range []string{"ann-0", "x", "dan-", "dan-01"} {
		for _, count := range []bool{false, true} {
			s := &scene{t, withAir("<enabled id='"+key+"'/>", count)}
			s.not(impl.WorldHear, 3, 1, "")
			s.not(impl.WorldCut, 3, 1, "")
			s.hear(3, 0)
		}
	}
}

// What comes behind a key is of its session.
func TestWhatComesBehindAKey(t *testing.T) {
	s := newScene(t, "ann", "bob")
	s.enter(0, 1)
	s.hear(0, 9)
	s.cut(0, 0)
	s.open(0)
	s.say(0, joinText("den", "Ann"))
	s.hear(0, 3)
	s.expectClient(0, 2, "ann-0", 2, joinTold("den", 1, "ann", 3), joinTold("den", 2, "bob", 2))
	s.expectSafe()
	s.hear(0, 1)
	s.expectClient(0, 2, "ann-2", 0)
	s.expectSafe()
	s.hear(0, 1)
	s.expectClient(0, 2, "ann-2", 1, joinTold("den", 4, "ann", 3))
	s.expectSafe()
}

func TestACountThatGoesRound(t *testing.T) {
	s := newScene(t, "ann")
	s.enter(0)
	s.hear(0, 1)
	for i := range 260 {
		s.say(0, "<zz/>")
		s.hear(0, 1)
		if got, want := s.w.Clients[0].Count, (i+2)%256; got != want {
			t.Fatalf("behind %d it is %d", i+2, got)
		}
		s.ack(0)
	}
	if len(s.w.Clients[0].Got) != 261 || len(s.w.Server.Sess) != 1 || s.w.Server.Sess[0].Line.Base != 5 {
		t.Fatal(s.w.Clients, s.w.Server.Sess)
	}
	s.say(0, "<zz/><zz/><zz/>")
	s.cut(0, 1)
	s.back(0)
	s.expectAir(0, streamBegun, "<success/>", "<resumed h='1' id='ann-0'/>", "+<error code='1'/>", "+<error code='1'/>")
	s.expectSafe()
	// By one step at the end of the counts.
	for count, want := range map[int]int{0: 1, 254: 255, 255: 0} {
		s := &scene{t, worldClient(0, func(c *impl.Client) { c.Count = count })}
		s.hear(0, 1)
		s.expectClient(0, 4, "ann-0", count, "w")
		s.hear(0, 1)
		s.expectClient(0, 4, "ann-0", want, "w", "x")
	}
}
