package tests

import (
	"fmt"
	"slices"
	"strings"
	"testing"

	"loop.example/hubbub/impl"
)

// troupe plays in a world: clients come and go, say what they like, and hear some of what is under way.
type troupe struct {
	*scene
	d    dice
	list []impl.Event
}

func newTroupe(t *testing.T, d dice) *troupe {
	users := playUsers[:1+d.IntN(4)]
	if d.IntN(3) > 0 {
		users = playUsers
	}
	return &troupe{scene: newScene(t, users...), d: d}
}

// fairBytes is what may be said by a client that leaves counts, keys and who it is to its events.
func (d dice) fairBytes() string {
	for {
		text := d.saidBytes()
		if !strings.Contains(text, "<a ") && !strings.Contains(text, "<resume") && !strings.Contains(text, "<auth") {
			return text
		}
	}
}

// awaitsItsKey says whether a client has a link whose session has counts, but does not know its key yet. The count that it would tell then is one of an earlier session.
func awaitsItsKey(w impl.World, c impl.Client) bool {
	return slices.ContainsFunc(w.Server.Sess, func(x impl.Sess) bool { return x.On && x.Link == c.Link && x.Key != c.Key })
}

// event is something that may happen next; a fair one keeps to what P55 asks of clients, and no count is told in it by one that awaits its key.
func (p *troupe) event(fair bool) impl.Event {
	d, at := p.d, p.d.IntN(len(p.w.Clients))
	e := impl.Event{At: at, Num: d.IntN(6)}
	c := p.w.Clients[at]
	switch k := d.IntN(40); {
	case c.Link == -1 && k < 26:
		e.Kind = []int{impl.WorldOpen, impl.WorldBack, impl.WorldBack}[d.IntN(3)]
	case k < 20:
		e.Kind, e.Text = impl.WorldSay, d.fairBytes()
		if !fair && d.IntN(3) == 0 {
			e.Text = d.saidBytes()
		}
		if d.IntN(4) == 0 {
			e.Text = joinText("den", nickOf(p.w.Server.Accounts[at].User))
		}
	case k < 27:
		e.Kind, e.Num = impl.WorldHear, d.IntN(12)
	case k < 31:
		e.Kind = impl.WorldAck
	case k < 35:
		e.Kind = impl.WorldCut
	case k < 37:
		e.Kind = impl.WorldTick
	case k < 38:
		e.Kind, e.Num, e.Text = impl.WorldFall, d.IntN(150), d.fairBytes()
		if d.IntN(2) == 0 {
			e.Kind = impl.WorldTick
		}
	default:
		e.Kind, e.At, e.Num = d.IntN(11)-1, d.IntN(7)-1, d.IntN(4)-1
	}
	known := e.At >= 0 && e.At < len(p.w.Clients)
	if fair && e.Kind == impl.WorldAck && known && awaitsItsKey(p.w, p.w.Clients[e.At]) {
		e.Kind = impl.WorldHear
	}
	return e
}

// play lets so many things happen, and looks at the world behind each.
func (p *troupe) play(many int, fair bool, look func()) {
	p.Helper()
	for range many {
		e := p.event(fair)
		p.list = append(p.list, e)
		p.try(e)
		look()
	}
	if w := impl.WorldPlay(p.w.Server.Accounts, p.list); !sameWorld(w, p.w) {
		p.Fatalf("WorldPlay of %+v is\n%+v\nnot\n%+v", p.list, w, p.w)
	}
}

func TestP54WhatIsPlayedIsDoneOneByOne(t *testing.T) {
	d := newDice()
	for range 16 {
		newTroupe(t, d).play(d.IntN(61), false, func() {})
	}
	list := accountsOf("ann", "bob")
	play := func(events []impl.Event) impl.World { return impl.WorldPlay(list, events) }
	open := impl.Event{Kind: impl.WorldOpen, At: 1}
	// Of what cannot be nothing is left, but it counts.
	for many := range 70 {
		events := append(slices.Repeat([]impl.Event{{Kind: impl.WorldHear, At: 1}}, many), open, impl.Event{Kind: 9}, impl.Event{Kind: impl.WorldSay, At: 1, Text: "<r/>"})
		s := newScene(t, "ann", "bob")
		if many < 60 {
			s.open(1)
		}
		if many < 58 {
			s.say(1, "<r/>")
		}
		if w := play(events); !sameWorld(w, s.w) {
			t.Errorf("behind %d that cannot be there is %+v", many, w)
		}
	}
	// Exactly PlayMax events, and one more.
	events := append([]impl.Event{open, {Kind: impl.WorldHear, At: 1, Num: 3}}, slices.Repeat([]impl.Event{{Kind: impl.WorldSay, At: 1, Text: "<r/>"}}, 70)...)
	for many, want := range map[int]int{59: 57, 60: 58, 61: 58, 72: 58} {
		if w := play(events[:many]); len(w.Clients[1].Air) != want {
			t.Errorf("of %d events %d are answered, not %d", many, len(w.Clients[1].Air), want)
		}
	}
}

// checkSafe holds what came to each client against what was told.
func (p *troupe) checkSafe() (linked, lost int) {
	p.Helper()
	p.expectSafe()
	for _, c := range p.w.Clients {
		for _, text := range c.Got {
			if strings.HasPrefix(text, "<entry ") && !slices.ContainsFunc(p.w.Server.Log, func(e impl.Entry) bool { return entryTold(e) == text }) {
				p.Fatalf("%s came, but is not kept", text)
			}
		}
		for _, x := range p.w.Server.Sess {
			if !x.On || x.Key != c.Key {
				continue
			}
			came := slices.Clone(c.Got)
			for _, o := range c.Air {
				if o.Count && x.Link != -1 {
					came = append(came, o.Text)
				}
			}
			if x.Link != -1 {
				linked++
			} else if lost++; !x.Line.Over && len(x.Told) <= len(came)+len(x.Line.Queue) && len(x.Told) >= len(came) {
				came = append(came, x.Told[len(came):]...)
			}
			if !slices.Equal(came, x.Told) && !x.Line.Over {
				p.Fatalf("of %q there came %q", x.Told, came)
			}
		}
	}
	return linked, lost
}

func TestP55WhatComesIsWhatWasTold(t *testing.T) {
	d := newDice()
	linked, lost, falls := 0, 0, 0
	for range 60 {
		p := newTroupe(t, d)
		p.play(60, true, func() {
			a, b := p.checkSafe()
			linked, lost = linked+a, lost+b
			if e := p.list[len(p.list)-1]; e.Kind == impl.WorldFall {
				falls++
			}
		})
	}
	if linked < 1200 || lost < 480 || falls < 24 {
		t.Error(linked, lost, falls)
	}
}

func TestP56WhoComesBackInTimeHasAll(t *testing.T) {
	d := newDice()
	back, more := 0, 0
	for range 80 {
		p := newTroupe(t, d)
		p.play(60, true, func() {
			for at, c := range p.w.Clients {
				i := slices.IndexFunc(p.w.Server.Sess, func(x impl.Sess) bool { return x.On && x.Key == c.Key && x.Link == -1 && !x.Line.Over })
				if c.Link != -1 || i < 0 {
					continue
				}
				s, want := p.fork(), p.w.Server.Sess[i].Told
				if !s.try(impl.Event{Kind: impl.WorldBack, At: at}) {
					continue
				}
				s.hear(at, 9999)
				s.expectClient(at, p.w.Links, c.Key, len(want)%256, want...)
				s.expectAir(at)
				if back++; len(want) > len(c.Got) {
					more++
				}
			}
		})
	}
	if back < 300 || more < 90 {
		t.Error(back, more)
	}
}

// toldOfRoom is what a session was told of a room since its user came there last, and what happened there since.
func toldOfRoom(s impl.Server, x impl.Sess, room string) (told, all []string) {
	came := false
	for _, e := range s.Log {
		if e.Room != room {
			continue
		}
		if e.Kind == impl.EntryJoin && e.User == x.User {
			came, all = true, nil
		}
		if came {
			all = append(all, entryTold(e))
		}
	}
	for _, text := range x.Told {
		if came && strings.HasPrefix(text, "<entry ") && strings.Contains(text, " room='"+room+"' ") && (len(told) > 0 || text == all[0]) {
			told = append(told, text)
		}
	}
	return told, all
}

func TestP57WhoIsInARoomIsToldAll(t *testing.T) {
	d := newDice()
	whole, begun, none := 0, 0, 0
	for range 40 {
		p := newTroupe(t, d)
		p.play(60, false, func() {
			for i, x := range p.w.Server.Sess {
				for _, room := range []string{"den", "hall", "nook", "attic", "", "Den"} {
					told, all := impl.WorldTold(p.w, i, room)
					wantTold, wantAll := toldOfRoom(p.w.Server, x, room)
					if !slices.Equal(told, wantTold) || !slices.Equal(all, wantAll) {
						t.Fatalf("%s is told\n%q of\n%q\nnot\n%q of\n%q", x.User, told, all, wantTold, wantAll)
					}
					r, _ := left(p.w.Server.Log, room)
					_, there := memberOf(r, x.User)
					if len(told) > len(all) || !slices.Equal(told, all[:len(told)]) || there && len(told) > 0 && len(told) < len(all) {
						t.Fatalf("of %q %s was told %q", all, x.User, told)
					}
					switch {
					case len(told) == 0:
						none++
					case there:
						whole++
					default:
						begun++
					}
				}
			}
		})
	}
	if whole < 400 || begun < 20 || none < 400 {
		t.Error(whole, begun, none)
	}
}

func TestP58WhoAreInNoRoomTogetherAreToldNothing(t *testing.T) {
	d := newDice()
	looked := 0
	for range 60 {
		p := newTroupe(t, d)
		p.play(60, false, func() {})
		for _, x := range p.w.Server.Sess {
			for _, text := range x.Told {
				if !strings.HasPrefix(text, "<entry ") {
					continue
				}
				_, rest, _ := strings.Cut(text, " room='")
				room, _, _ := strings.Cut(rest, "'")
				looked++
				if !slices.ContainsFunc(p.w.Server.Log, func(e impl.Entry) bool {
					return e.Kind == impl.EntryJoin && e.Room == room && e.User == x.User
				}) {
					t.Fatalf("%s is told %s", x.User, text)
				}
			}
		}
	}
	if looked < 80 {
		t.Error(looked)
	}
	// Two rooms, and one who is in both.
	s := newScene(t, "ann", "bob", "cyd")
	s.enter(0)
	s.open(1)
	s.say(1, joinText("hall", "Bob"))
	s.open(2)
	s.say(2, joinText("den", "Cyd")+joinText("hall", "Cyd")+talkText("den", "m", "x")+talkText("hall", "n", "y"))
	for i, want := range [][]string{
		{joinTold("den", 1, "ann", 3), joinTold("den", 2, "cyd", 2), talkTold("den", 3, "cyd", "m", "x")},
		{joinTold("hall", 1, "bob", 3), joinTold("hall", 2, "cyd", 2), talkTold("hall", 3, "cyd", "n", "y")},
		{joinTold("den", 2, "cyd", 2), joinTold("hall", 2, "cyd", 2), talkTold("den", 3, "cyd", "m", "x"), talkTold("hall", 3, "cyd", "n", "y")},
	} {
		if got := s.w.Server.Sess[i].Told; !slices.Equal(got, want) {
			t.Errorf("%d was told %q", i, got)
		}
	}
}

func (s *scene) expectTold(sess int, room string, told, all []string) {
	s.Helper()
	gotTold, gotAll := impl.WorldTold(s.w, sess, room)
	if !slices.Equal(gotTold, told) || !slices.Equal(gotAll, all) {
		s.Errorf("of %q the session %d was told\n%q of\n%q\nnot\n%q of\n%q", room, sess, gotTold, gotAll, told, all)
	}
}

func TestWorldTold(t *testing.T) {
	s := newScene(t, "ann", "bob", "cyd")
	s.enter(0, 1)
	s.say(0, talkText("den", "m", "x")+"<zz/>"+askText("den", "q", "max='4'")+joinText("hall", "Ann"))
	all := []string{joinTold("den", 1, "ann", 3), joinTold("den", 2, "bob", 2), talkTold("den", 3, "ann", "m", "x")}
	s.expectTold(0, "den", all, all)
	s.expectTold(1, "den", all[1:], all[1:])
	s.expectTold(0, "hall", []string{joinTold("hall", 1, "ann", 3)}, []string{joinTold("hall", 1, "ann", 3)})
	// No session, no room, and one where the user never was.
	for _, sess := range []int{-1, 2, 3, 99, -99} {
		s.expectTold(sess, "den", nil, nil)
	}
	for _, room := range []string{"nook", "", "Den", "de", "den ", "den'", "abcdefghi"} {
		s.expectTold(0, room, nil, nil)
	}
	s.expectTold(1, "hall", nil, nil)
	// Who is there, but is nobody yet, or has no counts.
	s.open(2)
	s.expectTold(2, "den", nil, nil)
	// Who left is told no more.
	s.say(1, leaveText("den"))
	s.say(0, talkText("den", "n", "y"))
	all = append(all, leaveTold("den", 4, "bob", 0), talkTold("den", 5, "ann", "n", "y"))
	s.expectTold(0, "den", all, all)
	s.expectTold(1, "den", all[1:4], all[1:])
	// Who came again is told of what is behind that.
	s.say(1, joinText("den", "Bob")+talkText("den", "o", "z"))
	all = append(all, joinTold("den", 6, "bob", 2), talkTold("den", 7, "bob", "o", "z"))
	s.expectTold(0, "den", all, all)
	s.expectTold(1, "den", all[5:], all[5:])
	// Without a link it is told all the same, and behind more than the line holds, too.
	s.cut(1, 0)
	for i := range 9 {
		s.say(0, talkText("den", fmt.Sprint(i), "z"))
		all = append(all, talkTold("den", 8+i, "ann", fmt.Sprint(i), "z"))
	}
	s.expectTold(1, "den", all[5:], all[5:])
	s.expectTold(0, "den", all, all)
}

// A session that began to count when its user was there already was not told of their coming; nor was one without counts.
func TestWorldToldOfWhoCameAheadOfTheCounts(t *testing.T) {
	s := newScene(t, "ann", "bob")
	s.enter(0)
	s.hear(0, 9)
	s.cut(0, 0)
	for range 4 {
		s.tick()
	}
	s.back(0)
	s.say(0, joinText("den", "Ann"))
	all := []string{joinTold("den", 3, "ann", 3)}
	s.expectTold(0, "den", nil, all)
	s.say(0, "<enable/>"+talkText("den", "m", "x"))
	all = append(all, talkTold("den", 4, "ann", "m", "x"))
	s.expectTold(0, "den", nil, all)
	s.say(0, leaveText("den")+joinText("den", "Ann"))
	s.expectTold(0, "den", []string{joinTold("den", 6, "ann", 3)}, []string{joinTold("den", 6, "ann", 3)})
}

// What a session was told is asked as it stands, be it what happened or not; a world need not be safe for it.
func TestWorldToldOfOtherTexts(t *testing.T) {
	w := livelyWorld()
	came, more := entryTold(w.Server.Log[1]), "<entry room='den'/>"
	w.Server.Sess[0].Told = []string{
		more, "x", "<entry/>", came, "<entry room='hall'/>", more, "<page><entry room='den'/></page>", "<Entry room='den'/>", "<entry room='den'", came, "<entry x='1' room='den'>y</entry>", "<entry room='Den'/>", " " + more,
		"<entry a='" + strings.Repeat("x", 700) + "' room='den'/>", "<entry><x room='den'/></entry>",
	}
	var all []string
	for _, e := range w.Server.Log[1:] {
		if e.Room == "den" {
			all = append(all, entryTold(e))
		}
	}
	if impl.WorldSafe(w) || !impl.WorldOk(w) {
		t.Fatal(w)
	}
	(&scene{t, w}).expectTold(0, "den", []string{came, more, came, "<entry x='1' room='den'>y</entry>"}, all)
	(&scene{t, w}).expectTold(0, "hall", nil, nil)
	(&scene{t, w}).expectTold(4, "den", nil, nil)
	// An answer is its own.
	told, happened := impl.WorldTold(w, 0, "den")
	if shareText(told, w.Server.Sess[0].Told) || shareText(told, happened) || shareText(happened, textsOfEntries(w.Server.Log...)) {
		t.Error("texts are shared")
	}
	clear(told[:cap(told)])
	clear(happened[:cap(happened)])
	(&scene{t, w}).expectTold(0, "den", []string{came, more, came, "<entry x='1' room='den'>y</entry>"}, all)
}

// waited is a lively world in which cyd's session without a link was told, has so much in its queue, and so much came to cyd.
func waited(told, queue, got []string, over bool) impl.World {
	return worldWith(func(w *impl.World) {
		x := &w.Server.Sess[2]
		x.Told, x.Line = told, impl.Line{Queue: queue, Over: over}
		w.Clients[2].Got = got
	})
}

func TestWorldSafe(t *testing.T) {
	entry, other := entryTold(lived()[1]), entryTold(impl.Entry{Room: "den", Seq: 1, Kind: 1, User: "ann", Nick: "Ant", Num: 3})
	ann := func(change func(c *impl.Client)) impl.World { return worldClient(0, change) }
	annTold := func(told ...string) impl.World {
		return worldWith(func(w *impl.World) { w.Server.Sess[0].Told = told })
	}
	abc := []string{"a", "b", "c"}
	for _, w := range []impl.World{
		livelyWorld(),
		// By a link: what came, and what is under way and counts.
		ann(func(c *impl.Client) {
			c.Got, c.Air = nil, append([]impl.Out{{Link: 4, Text: "w", Count: true}}, c.Air...)
		}),
		ann(func(c *impl.Client) { c.Got, c.Air = []string{"w", "x", "y"}, nil }),
		ann(func(c *impl.Client) { c.Air = append(c.Air, impl.Out{Link: 4, Text: "z"}) }),
		ann(func(c *impl.Client) { c.Count = 7 }),
		// A key that no session has, or none.
		ann(func(c *impl.Client) { c.Key, c.Got = "ann-7", abc }), ann(func(c *impl.Client) { c.Key, c.Got = "", abc }),
		worldClient(1, func(c *impl.Client) { c.Got = abc }), worldClient(3, func(c *impl.Client) { c.Got = abc }),
		// Without a link: what was told begins with what came, and the rest waits.
		waited(abc, nil, abc, false), waited(abc, abc[2:], abc[:2], false), waited(abc, abc, nil, false), waited(abc, abc, abc, false), waited(abc, []string{"z"}, abc[:2], false), waited(nil, nil, nil, false),
		waited(abc, nil, nil, true), waited(abc, nil, abc[:1], true), waited(abc, nil, abc, true),
		// The session has another link than the client.
		worldWith(func(w *impl.World) { w.Clients[0] = impl.Client{Link: 1, Key: "ann-0", Got: []string{"v"}} }),
		worldWith(func(w *impl.World) { w.Clients[0] = impl.Client{Link: -1, Key: "ann-0", Got: []string{"v"}} }),
		// The session has none, and the client neither.
		worldWith(func(w *impl.World) { w.Clients[2].Link, w.Clients[2].Air = -1, nil }),
		// What came of what happened.
		worldClient(1, func(c *impl.Client) {
			c.Got = []string{entry, entry, "<entry", "<entryx y='1'/>", " " + other, "<page>" + other + "</page>", "<error code='1'/>"}
		}),
		waited([]string{entry, "b"}, []string{"b"}, []string{entry}, false),
	} {
		if !impl.WorldOk(w) || !impl.WorldSafe(w) {
			t.Errorf("not safe: %+v", w)
		}
	}
	for _, w := range []impl.World{
		annTold(), annTold("w"), annTold("w", "x"), annTold("x", "y"), annTold("w", "x", "y", "z"), annTold("w", "y", "x"), annTold("w", "x", "x", "y"), annTold("v", "w", "x", "y"), annTold("w", "x", "z"),
		ann(func(c *impl.Client) { c.Air = nil }), ann(func(c *impl.Client) { c.Got = nil }), ann(func(c *impl.Client) { c.Air[1].Count = false }), ann(func(c *impl.Client) { c.Air[0].Count = true }), ann(func(c *impl.Client) { c.Got = append(c.Got, "x") }),
		ann(func(c *impl.Client) { c.Air[1], c.Air[2] = c.Air[2], c.Air[1] }),
		waited(abc, nil, abc[:2], false), waited(abc, abc[2:], abc[:1], false), waited(abc, abc[1:], nil, false), waited(abc, abc, abc[1:], false), waited(abc, abc, []string{"a", "b", "c", "d"}, false), waited(abc, abc, []string{"a", "c"}, false), waited(nil, nil, abc[:1], false),
		waited(abc, nil, abc[1:], true), waited(abc, nil, []string{"a", "b", "c", "d"}, true), waited(abc, nil, []string{"b"}, true),
		worldWith(func(w *impl.World) { w.Clients[2] = impl.Client{Link: -1, Key: "cyd-1", Got: []string{"y"}} }),
		// What came of what did not happen, to whomever it came.
		worldClient(1, func(c *impl.Client) { c.Got = []string{entry, other} }), worldClient(1, func(c *impl.Client) { c.Got = []string{"<entry "} }), worldClient(1, func(c *impl.Client) { c.Got = []string{entry + " "} }),
		worldClient(3, func(c *impl.Client) { c.Got = []string{other} }), worldClient(3, func(c *impl.Client) { c.Link, c.Air, c.Key, c.Got = -1, nil, "", []string{other} }),
		waited([]string{other}, nil, []string{other}, false),
		worldWith(func(w *impl.World) { w.Server = impl.ServerNew(w.Server.Accounts) }),
	} {
		if !impl.WorldOk(w) || impl.WorldSafe(w) {
			t.Errorf("safe: %+v", w)
		}
	}
}

// A fall that took more than what was being added is seen by what came to clients.
func TestAFallThatTakesTooMuchIsNotSafe(t *testing.T) {
	s := newScene(t, "ann", "bob")
	s.enter(0, 1)
	s.say(0, talkText("den", "m", "x"))
	s.hear(0, 9)
	s.do(impl.WorldFall, 0, 0, "")
	s.expectSafe()
	for n := range 5 {
		w := cloneWorld(s.w)
		w.Server = impl.ServerRise(w.Server.Accounts, journalOf(w.Server.Log[:n]...), w.Server.Next)
		if safe := impl.WorldSafe(w); safe != (n == 4) {
			t.Errorf("with %d that happened it is safe: %v", n, safe)
		}
	}
}
