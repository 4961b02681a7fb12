package tests

import (
	"fmt"
	"math"
	"slices"
	"strings"
	"testing"

	"loop.example/hubbub/impl"
)

// What was under way when a link is cut: so many come ahead of it, the rest never.
func TestWhatWasUnderWayWhenALinkIsCut(t *testing.T) {
	texts := []string{joinTold("den", 2, "bob", 2), talkTold("den", 3, "ann", "m", "x"), talkTold("den", 4, "ann", "n", "y")}
	for num, came := range map[int]int{0: 0, 1: 1, 2: 2, 3: 3, 4: 3, 99: 3, math.MaxInt: 3} {
		s := newScene(t, "ann", "bob")
		s.enter(0, 1)
		s.say(0, talkText("den", "m", "x")+talkText("den", "n", "y"))
		s.expectAir(1, "+"+texts[0], "+"+texts[1], "+"+texts[2])
		s.cut(1, num)
		s.expectClient(1, -1, "bob-1", came, texts[:came]...)
		s.expectAir(1)
		s.expectSess("0+ann -1+bob")
		s.expectSafe()
		// All that did not come comes then, and what was told meanwhile.
		s.say(0, talkText("den", "o", "z"))
		s.back(1)
		s.hear(1, 99)
		s.expectClient(1, 2, "bob-1", 4, append(slices.Clone(texts), talkTold("den", 5, "ann", "o", "z"))...)
		s.expectSafe()
	}
	s := newScene(t, "ann")
	s.enter(0)
	s.not(impl.WorldCut, 0, -1, "")
	s.expectClient(0, 0, "ann-0", 0)
}

// Whether a key came ahead of the cut says what the client knows of its session.
func TestAKeyUnderWayWhenALinkIsCut(t *testing.T) {
	for num := range 5 {
		s := newScene(t, "ann")
		s.open(0)
		s.say(0, joinText("den", "Ann"))
		s.cut(0, num)
		switch {
		case num < 3:
			s.expectClient(0, -1, "", 0)
		case num == 3:
			s.expectClient(0, -1, "ann-0", 0)
		default:
			s.expectClient(0, -1, "ann-0", 1, joinTold("den", 1, "ann", 3))
		}
		s.expectSess("-1+ann")
		s.expectSafe()
		s.back(0)
		if num < 3 {
			s.expectAir(0, streamBegun, "<success/>", leaveTold("den", 2, "ann", 3), "<enabled id='ann-1'/>")
			s.expectLog(leaveTold("den", 2, "ann", 3))
			continue
		}
		s.expectSess("1+ann")
		s.hear(0, 99)
		s.expectClient(0, 1, "ann-0", 1, joinTold("den", 1, "ann", 3))
	}
}

// What is cut goes, and those who are still there are told.
func TestACutOfWhoHasNoCounts(t *testing.T) {
	s := newScene(t, "ann", "bob")
	s.enter(0, 1)
	s.cut(1, 9)
	for range 4 {
		s.tick()
	}
	s.back(1)
	s.say(1, joinText("den", "Bob"))
	s.hear(0, 99)
	s.hear(1, 99)
	s.expectSess("0+ann 2bob")
	s.say(1, talkText("den", "m", "x"))
	s.expectAir(1, talkTold("den", 5, "bob", "m", "x"))
	s.cut(1, 1)
	// What did not count did not come to stay.
	s.expectClient(1, -1, "bob-1", 1, joinTold("den", 2, "bob", 2))
	s.expectSess("0+ann")
	s.expectAir(0, "+"+talkTold("den", 5, "bob", "m", "x"), "+"+leaveTold("den", 6, "bob", 3))
	s.expectSafe()
}

func TestACutOfALinkThatNoSessionHas(t *testing.T) {
	s := newScene(t, "ann", "bob")
	s.enter(0, 1)
	s.hear(0, 9)
	s.hear(1, 9)
	s.say(1, talkText("den", "m", "x")+"</stream>")
	was := s.w.Server
	s.cut(1, 1)
	s.expectClient(1, -1, "bob-1", 2, joinTold("den", 2, "bob", 2), talkTold("den", 3, "bob", "m", "x"))
	if !sameServer(s.w.Server, was) {
		t.Errorf("of %+v it is %+v", was, s.w.Server)
	}
	s.expectAir(0, "+"+talkTold("den", 3, "bob", "m", "x"), "+"+leaveTold("den", 4, "bob", 3))
	s.expectSafe()
}

func TestACutOfALineThatIsOver(t *testing.T) {
	s := newScene(t, "ann", "bob")
	s.enter(0, 1)
	for i := range 8 {
		s.say(0, talkText("den", fmt.Sprint(i), "x"))
		s.hear(0, 9)
		s.ack(0)
	}
	s.expectSafe()
	s.cut(1, 4)
	s.expectSess("0+ann")
	if c := s.w.Clients[1]; c.Count != 4 || len(c.Got) != 4 || c.Key != "bob-1" {
		t.Error(c)
	}
	s.expectAir(0, "+"+leaveTold("den", 11, "bob", 3))
	s.expectSafe()
}

func TestTicksOfAWorld(t *testing.T) {
	s := newScene(t, "ann", "bob")
	s.enter(0, 1)
	s.hear(0, 9)
	s.cut(1, 9)
	for range 3 {
		s.do(impl.WorldTick, 1, -5, "x")
	}
	s.expectSess("0+ann -1+bob")
	s.expectAir(0)
	s.tick()
	s.expectSess("0+ann")
	s.expectAir(0, "+"+leaveTold("den", 3, "bob", 3))
	s.expectSafe()
}

// fallReady is a world in which ann, bob and cyd were in den, of whom cyd has no link.
func fallReady(t *testing.T) *scene {
	s := newScene(t, "ann", "bob", "cyd", "dan")
	s.enter(0, 1, 2)
	s.hear(0, 2)
	s.hear(1, 1)
	s.cut(2, 1)
	return s
}

// checkFallen looks at a world behind a fall.
func (s *scene) checkFallen(was impl.World, log []impl.Entry) {
	s.Helper()
	n := len(was.Server.Log)
	got := s.w.Server.Log[n:]
	if len(got) < len(log) || !slices.Equal(got[:len(log)], log) {
		s.Fatalf("behind the fall there is %+v, not %+v", got, log)
	}
	for _, e := range got[len(log):] {
		if e.Kind != impl.EntryLeave || e.Num != impl.LeaveLost {
			s.Fatalf("behind the fall there happened %+v", e)
		}
	}
	for _, name := range []string{"den", "hall"} {
		if r := impl.RoomOf(s.w.Server.Journal, name); len(r.Members) > 0 {
			s.Fatalf("%+v are still in %s", r.Members, name)
		}
	}
	s.expectSess("")
	for i := range s.w.Clients {
		b := was.Clients[i]
		s.expectClient(i, -1, b.Key, b.Count, b.Got...)
		s.expectAir(i)
	}
	if s.w.Links != was.Links {
		s.Fatal(s.w.Links)
	}
	s.expectSafe()
}

// A fall while something is written: none of its bytes is there, some, all, or more than there are.
func TestAFallWhileSomethingIsWritten(t *testing.T) {
	ready := fallReady(t)
	// Two entries, one behind the other.
	text := talkText("den", "m", "x") + joinText("hall", "Ann")
	fed, _ := impl.ServerFeed(ready.w.Server, 0, text)
	log := fed.Log[len(ready.w.Server.Log):]
	size := len(fed.Journal) - len(ready.w.Server.Journal)
	if len(log) != 3 {
		t.Fatal(log)
	}
	for num := range size + 3 {
		s, whole := ready.fork(), 0
		for whole < 3 && len(journalOf(log[:whole+1]...)) <= num {
			whole++
		}
		s.do(impl.WorldFall, 0, num, text)
		s.checkFallen(ready.w, log[:whole])
	}
	s := ready.fork()
	s.do(impl.WorldFall, 0, math.MaxInt, text)
	s.checkFallen(ready.w, log)
	s.expectLog(joinTold("hall", 1, "ann", 3), leaveTold("den", 5, "ann", 3), leaveTold("den", 6, "bob", 3), leaveTold("den", 7, "cyd", 3), leaveTold("hall", 2, "ann", 3))
	ready.not(impl.WorldFall, 0, -1, text)
}

// Of a client without a link nothing is written, nor of one with a link that no session has, nor of what says nothing.
func TestAFallWhileNothingIsWritten(t *testing.T) {
	for _, c := range []struct {
		at   int
		text string
	}{{2, talkText("den", "m", "x")}, {3, joinText("den", "Dan")}, {0, ""}, {0, "<r/>"}, {1, subjectText("den", "m", "x")}, {1, "<messa"}} {
		s := fallReady(t)
		was := s.w
		s.do(impl.WorldFall, c.at, 999, c.text)
		s.checkFallen(was, nil)
		s.expectLog(leaveTold("den", 4, "ann", 3), leaveTold("den", 5, "bob", 3), leaveTold("den", 6, "cyd", 3))
	}
	s := fallReady(t)
	s.say(0, "</stream>")
	was := s.w
	s.do(impl.WorldFall, 0, 999, talkText("den", "m", "x"))
	s.checkFallen(was, nil)
	// Bytes that began to come ahead of it.
	s = fallReady(t)
	text := talkText("den", "m", "x")
	s.say(0, text[:20])
	was = s.w
	s.do(impl.WorldFall, 0, 999, text[20:])
	s.checkFallen(was, []impl.Entry{{Room: "den", Seq: 4, Kind: 3, User: "ann", Nick: "Ann", Text: "x", Id: "m"}})
	// What goes without a link that nobody cut: who leaves by it is written, too.
	s = fallReady(t)
	was = s.w
	s.do(impl.WorldFall, 1, 999, "</stream>")
	s.checkFallen(was, nil)
	s.expectLog(leaveTold("den", 4, "bob", 3), leaveTold("den", 5, "ann", 3), leaveTold("den", 6, "cyd", 3))
}

// A key that may have been told is never given again, though what was told is not known.
func TestKeysBehindAFall(t *testing.T) {
	for _, num := range []int{0, 999} {
		s := newScene(t, "ann", "bob")
		s.enter(0)
		s.cut(0, 9)
		s.open(0)
		s.cut(0, 0)
		s.back(0)
		s.expectSess("-1+ann 2ann")
		was := s.fork()
		s.do(impl.WorldFall, 0, num, "<enable/>")
		if s.w.Server.Next != 3 {
			t.Error(s.w.Server.Next)
		}
		// Without a link, or of another client, no key is given.
		for at, text := range map[int]string{1: "<enable/>", 0: "<r/>"} {
			x := was.fork()
			x.do(impl.WorldFall, at, num, text)
			if x.w.Server.Next != 2 {
				t.Error(x.w.Server.Next)
			}
		}
		s.expectClient(0, -1, "ann-0", 1, joinTold("den", 1, "ann", 3))
		s.back(0)
		s.expectAir(0, streamBegun, "<success/>", "<failed code='11'/>")
		s.hear(0, 9)
		s.expectClient(0, 3, "ann-0", 1, joinTold("den", 1, "ann", 3))
		s.expectSafe()
		s.say(0, "<enable/>"+joinText("den", "Ann"))
		s.expectSess("3+ann")
		s.expectSafe()
		s.hear(0, 9)
		s.expectClient(0, 3, "ann-3", 1, s.w.Server.Sess[0].Told...)
		s.expectSafe()
		s.open(1)
		s.hear(1, 9)
		s.expectClient(1, 4, "bob-4", 0)
	}
}

// A second fall behind the first, and all that happened between.
func TestAFallBehindAFall(t *testing.T) {
	s := newScene(t, "ann", "bob")
	for i := range 3 {
		s.enter(0, 1)
		s.say(1, talkText("den", fmt.Sprint("m", i), "x"))
		s.hear(0, 9)
		was := s.w
		s.do(impl.WorldFall, 1, 30, talkText("den", "n", "x"))
		s.checkFallen(was, nil)
	}
	if s.w.Links != 6 || s.w.Server.Next != 6 || len(s.w.Server.Log) != 16 {
		t.Errorf("%+v", s.w)
	}
}

// What cannot be under way to a client, or come to it, cannot happen: its lists hold ToldMax each.
func TestToldMaxOfWhatIsUnderWay(t *testing.T) {
	ready := func(many int) *scene {
		s := newScene(t, "ann", "bob", "cyd")
		s.enter(0, 1)
		s.w.Clients[1].Air = airOf(1, many, false)
		return s
	}
	for _, e := range []impl.Event{
		{Kind: impl.WorldSay, At: 1, Text: "<r/>"}, {Kind: impl.WorldSay, At: 1, Text: "<zz/>"}, {Kind: impl.WorldSay, At: 0, Text: talkText("den", "m", "x")},
		{Kind: impl.WorldSay, At: 0, Text: "</stream>"}, {Kind: impl.WorldSay, At: 0, Text: leaveText("den")},
	} {
		ready(999).do(e.Kind, e.At, e.Num, e.Text)
		ready(1000).not(e.Kind, e.At, e.Num, e.Text)
		s := ready(1000)
		s.hear(1, 1)
		s.do(e.Kind, e.At, e.Num, e.Text)
		s.not(impl.WorldSay, 1, 0, "<r/>")
	}
	// What makes nothing be under way can be.
	s := ready(1000)
	s.say(1, "")
	s.say(0, "<r/>")
	s.tick()
	s.open(2)
	s.fork().cut(1, 0)
	s.fork().do(impl.WorldFall, 1, 0, "<r/>")
	// A tick by which somebody leaves, a cut, and an open that begins anew.
	for many, can := range map[int]bool{999: true, 1000: false} {
		s := ready(many)
		s.cut(0, 0)
		for range 3 {
			s.tick()
		}
		for kind, at := range map[int]int{impl.WorldTick: 2, impl.WorldOpen: 0} {
			if s.fork().try(impl.Event{Kind: kind, At: at}) != can {
				t.Errorf("with %d under way, an event of the kind %d can be: %v", many, kind, !can)
			}
		}
		s = ready(many)
		s.w.Server.Sess[0].Line = impl.Line{Over: true}
		if s.try(impl.Event{Kind: impl.WorldCut}) != can {
			t.Errorf("with %d under way, a cut can be: %v", many, !can)
		}
	}
	// All at once: 500 things are said, of which each is answered.
	s = newScene(t, "ann")
	s.open(0)
	s.hear(0, 3)
	for range 2 {
		s.say(0, strings.Repeat("<r/>", 500))
	}
	s.not(impl.WorldSay, 0, 0, "<r/>")
	s.hear(0, 499)
	s.not(impl.WorldSay, 0, 0, strings.Repeat("<r/>", 500))
	s.say(0, strings.Repeat("<r/>", 499))
}

func TestToldMaxOfWhatCame(t *testing.T) {
	for many, can := range map[int]bool{999: true, 1000: false} {
		for _, kind := range []int{impl.WorldHear, impl.WorldCut} {
			s := &scene{t, worldClient(3, func(c *impl.Client) { c.Got, c.Air[0].Count = told(many), true })}
			s.fork().do(kind, 3, 0, "")
			if s.try(impl.Event{Kind: kind, At: 3, Num: 1}) != can {
				t.Errorf("when %d came, another one can: %v", many, !can)
			}
		}
	}
	s := &scene{t, worldClient(3, func(c *impl.Client) { c.Got = told(1000) })}
	s.hear(3, 1)
	// A key lets all be forgotten that came ahead of it.
	s = &scene{t, worldClient(3, func(c *impl.Client) {
		c.Got, c.Air = told(1000), []impl.Out{{Link: 7, Text: "x", Count: true}, {Link: 7, Text: "<enabled id='dan-2'/>"}, {Link: 7, Text: "y", Count: true}}
	})}
	s.not(impl.WorldHear, 3, 1, "")
	s.hear(3, 3)
	s.expectClient(3, 7, "dan-2", 1, "y")
}

// What goes out by a link that no client has goes nowhere.
func TestALinkThatNoClientHas(t *testing.T) {
	s := &scene{t, worldWith(func(w *impl.World) { w.Clients[1] = impl.Client{Link: -1} })}
	s.say(0, talkText("den", "m", "x"))
	s.expectAir(1)
	if air := s.w.Clients[0].Air; len(air) != 4 || !air[3].Count {
		t.Error(air)
	}
}

// textsOfWorld is all texts of a world, a list for each of its lists.
func textsOfWorld(w impl.World) [][]string {
	lists := textsOfServer(w.Server)
	for _, c := range w.Clients {
		var air []string
		for _, o := range c.Air {
			air = append(air, o.Text)
		}
		lists = append(lists, air, c.Got, []string{c.Key})
	}
	return lists
}

// scribbleWorld changes all that a world's lists hold, spare room included.
func scribbleWorld(w impl.World) {
	scribble(w.Server, nil)
	for _, c := range w.Clients {
		clear(c.Got[:cap(c.Got)])
		clear(c.Air[:cap(c.Air)])
	}
	clear(w.Clients[:cap(w.Clients)])
}

// spaciousWorld is a world whose lists have spare room behind them, in which marks stand.
func spaciousWorld(w impl.World) impl.World {
	w = cloneWorld(w)
	w.Server = spacious(w.Server)
	w.Clients = append(w.Clients, impl.Client{Key: "mark"})[:len(w.Clients)]
	for i := range w.Clients {
		c := &w.Clients[i]
		c.Got = append(c.Got, "mark")[:len(c.Got)]
		c.Air = append(c.Air, impl.Out{Text: "mark"})[:len(c.Air)]
	}
	return w
}

func spareOfWorldStands(w impl.World) bool {
	ok := spareStands(w.Server) && w.Clients[:len(w.Clients)+1][len(w.Clients)].Key == "mark"
	for _, c := range w.Clients {
		ok = ok && c.Got[:len(c.Got)+1][len(c.Got)] == "mark" && c.Air[:len(c.Air)+1][len(c.Air)].Text == "mark"
	}
	return ok
}

func TestWorldSharesNoMemory(t *testing.T) {
	text := "<presence to='nook@rooms.local/Nn'/><zz/>" + talkText("den", "q", "hi") + "<presence to='de"
	for _, e := range []impl.Event{
		{Kind: 0}, {Kind: impl.WorldSay, At: 0, Text: text}, {Kind: impl.WorldSay, At: 3, Text: text}, {Kind: impl.WorldSay, At: 2, Text: "<enable/>"}, {Kind: impl.WorldAck, At: 0}, {Kind: impl.WorldHear, At: 0, Num: 2}, {Kind: impl.WorldHear, At: 2, Num: 9},
		{Kind: impl.WorldCut, At: 0, Num: 2}, {Kind: impl.WorldCut, At: 1}, {Kind: impl.WorldTick}, {Kind: impl.WorldFall, At: 0, Num: 99, Text: text}, {Kind: impl.WorldOpen, At: 3}, {Kind: impl.WorldBack, At: 3},
	} {
		w := livelyWorld()
		if e.Kind <= impl.WorldBack {
			w = danAway()
		}
		w.Clients[2].Air[0].Text = "<enabled id='cyd-1'/>"
		w = spaciousWorld(w)
		was, texts := cloneWorld(w), slices.Concat(textsOfWorld(w)...)
		got, _ := impl.WorldDo(w, e)
		lists := textsOfWorld(got)
		for i, list := range lists {
			for _, other := range append(texts, text) {
				checkOwn(t, other, list...)
			}
			for _, other := range lists[:i] {
				if shareText(list, other) {
					t.Errorf("by %+v %q and %q share a text", e, list, other)
				}
			}
		}
		scribbleWorld(got)
		if !sameWorld(w, was) || !spareOfWorldStands(w) {
			t.Errorf("by %+v a world shares memory with what it was", e)
		}
	}
	list := accountsOf("ann", "bob")
	w := impl.WorldNew(list)
	for _, texts := range textsOfWorld(w) {
		checkOwn(t, list[0].User, texts...)
	}
	scribbleWorld(w)
	if !slices.Equal(list, accountsOf("ann", "bob")) {
		t.Error(list)
	}
}
