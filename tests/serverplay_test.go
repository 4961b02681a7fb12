package tests

import (
	"fmt"
	"slices"
	"strings"
	"testing"

	"loop.example/hubbub/impl"
)

var playUsers = []string{"ann", "bob", "cyd", "dan"}

// player plays with a server: links come and go, and users say what they like.
type player struct {
	*hub
	d dice
}

func newPlayer(t *testing.T, d dice) *player {
	return &player{newHub(t, playUsers...), d}
}

func (d dice) user() string {
	return playUsers[d.IntN(len(playUsers))]
}

// saidText is something that is said, or nearly.
func (d dice) saidText() string {
	room, user := []string{"den", "den", "den", "den", "hall", "hall", "nook", "attic"}[d.IntN(8)], d.user()
	switch k := d.IntN(42); {
	case k < 10:
		return joinText(room, nickOf(user))
	case k < 12:
		return leaveText(room)
	case k < 19:
		return talkText(room, fmt.Sprint("m", d.IntN(5)), []string{"x", "a&lt;b", "é"}[d.IntN(3)])
	case k < 20:
		return strings.Replace(talkText(room, "n", "y"), "</body>", "</body><replace id='m1'/>", 1)
	case k < 22:
		return subjectText(room, "s", "z")
	case k < 27:
		return roleText(room, "r", nickOf(user), []string{"none", "visitor", "visitor", "part", "part", "mod", "mod"}[d.IntN(7)])
	case k < 30:
		return rankText(room, "r", user, []string{"outcast", "none", "member", "admin", "owner"}[d.IntN(5)])
	case k < 32:
		return askText(room, "q", []string{"max='2'", "after='2' max='1'", "before='3' max='4'", "max='1' with='ann'"}[d.IntN(4)])
	case k < 34:
		return "<enable/>"
	case k < 36:
		return "<r/>"
	case k < 37:
		return fmt.Sprintf("<a h='%d'/>", d.IntN(2))
	case k < 38:
		return authText(user)
	case k < 39:
		return resumeText(d.IntN(4), fmt.Sprintf("%s-%d", user, d.IntN(4)))
	}
	return []string{"<zz/>", "<zz><r/></zz>", "<zz a=''>x</zz>", "<r/><r/>", " \n", "</stream>", "x", "<r/"}[d.IntN(8)]
}

// saidBytes is some things that are said, one behind the other.
func (d dice) saidBytes() string {
	var out strings.Builder
	for range d.IntN(4) {
		out.WriteString(d.saidText())
	}
	return out.String()
}

// entrance is how a user comes in by a link, and goes on with a session, if there is one and the dice say so.
func (p *player) entrance() string {
	user := p.d.user()
	for range 3 {
		if slices.ContainsFunc(p.s.Sess, func(x impl.Sess) bool { return x.User == user && x.Link >= 0 }) {
			user = p.d.user()
		}
	}
	text := "<stream>" + authText(user)
	for _, x := range p.s.Sess {
		if x.User == user && x.Link == -1 && p.d.IntN(3) > 0 {
			return text + resumeText((x.Line.Base+p.d.IntN(len(x.Line.Queue)+1))%256, x.Key)
		}
	}
	return text + []string{"", "<enable/>", "<enable/>"}[p.d.IntN(3)]
}

// link is a link that a session has, or nearly any.
func (p *player) link() int {
	if len(p.s.Sess) > 0 && p.d.IntN(8) > 0 {
		return p.s.Sess[p.d.IntN(len(p.s.Sess))].Link
	}
	return p.d.IntN(8) - 1
}

// stir lets links come and go, time pass, and what came be told to have come.
func (p *player) stir() {
	p.Helper()
	link := p.d.IntN(6)
	switch p.d.IntN(12) {
	case 0, 1, 2:
		if s, ok := impl.ServerOpen(p.s, link); ok {
			p.step(s, nil)
			p.step(impl.ServerFeed(p.s, link, p.entrance()))
		}
	case 3:
		p.step(impl.ServerCut(p.s, link))
	case 4:
		if p.d.IntN(3) == 0 {
			p.step(impl.ServerTick(p.s))
		}
	case 5, 6:
		for _, x := range p.s.Sess {
			if x.On && x.Link >= 0 && !x.Line.Over {
				p.step(impl.ServerFeed(p.s, x.Link, fmt.Sprintf("<a h='%d'/>", impl.LineSent(x.Line))))
				break
			}
		}
	}
}

// play plays for a while, and hands the server over again and again.
func (p *player) play(steps int, look func()) {
	for range steps {
		p.step(impl.ServerFeed(p.s, p.link(), p.d.saidBytes()))
		p.stir()
		look()
	}
}

// checkToldOf says that a session with counts was told all that happened in a room since its user came, and nothing else of it.
func (p *player) checkToldOf(x impl.Sess, r impl.Room) {
	p.Helper()
	var want, got []string
	for _, e := range p.s.Log {
		if e.Room != r.Name {
			continue
		}
		if e.Kind == impl.EntryJoin && e.User == x.User {
			want = nil
		}
		want = append(want, entryTold(e))
	}
	_, there := memberOf(r, x.User)
	from := slices.Index(x.Told, want[0])
	if !there || from < 0 {
		return
	}
	for _, text := range x.Told[from:] {
		if strings.HasPrefix(text, "<entry ") && strings.Contains(text, " room='"+r.Name+"' ") {
			got = append(got, text)
		}
	}
	if !slices.Equal(got, want) {
		p.Fatalf("%s was told of %s\n%s\nbut there happened\n%s", x.User, r.Name, strings.Join(got, "\n"), strings.Join(want, "\n"))
	}
}

func TestP46WhateverComesAServerStaysOk(t *testing.T) {
	d := newDice()
	happened, looked := [7]int{}, 0
	for range 25 {
		p := newPlayer(t, d)
		p.play(100, func() {
			for _, name := range []string{"den", "hall", "nook"} {
				r, _ := left(p.s.Log, name)
				for _, x := range p.s.Sess {
					if x.On && r.Next > 0 {
						looked++
						p.checkToldOf(x, r)
					}
				}
			}
		})
		for _, e := range p.s.Log {
			happened[e.Kind]++
		}
	}
	if slices.Min(happened[1:]) < 3 || looked < 300 {
		t.Error(happened, looked)
	}
}

// Bytes that are no marked text, or nearly none.
func TestAnyBytesMayCome(t *testing.T) {
	d := newDice()
	for range 100 {
		h := newHub(t, "ann", "bob")
		h.enter(1, "ann", "<enable/>", joinText("den", "Ann"))
		h.enter(2, "bob", joinText("den", "Bob"))
		h.open(3)
		for range 5 {
			bytes := d.scratched(d.saidBytes() + d.saidBytes())
			if d.IntN(4) == 0 {
				bytes = bytesOf(d)
			}
			h.step(impl.ServerFeed(h.s, 1+d.IntN(3), bytes))
		}
	}
}

// checkCuts feeds bytes in two pieces, cut at some places, and holds that against the whole.
func checkCuts(t *testing.T, s impl.Server, link int, bytes string, places []int) {
	t.Helper()
	whole, all := impl.ServerFeed(s, link, bytes)
	for _, at := range places {
		first, out := impl.ServerFeed(s, link, bytes[:at])
		second, more := impl.ServerFeed(first, link, bytes[at:])
		if !sameServer(second, whole) || !slices.Equal(append(out, more...), all) {
			t.Fatalf("cut at %d, %q does\n%+v\n%+v\nnot\n%+v\n%+v", at, bytes, second, append(out, more...), whole, all)
		}
	}
}

func everyPlace(bytes string) []int {
	var list []int
	for at := range len(bytes) + 1 {
		list = append(list, at)
	}
	return list
}

func TestP47HowBytesAreCutChangesNothing(t *testing.T) {
	h := goneOn(t)
	h.open(8)
	for _, c := range []struct {
		link  int
		bytes string
	}{
		{8, "<stream xmlns='q'>" + authText("ann") + authText("cyd") + joinText("den", "Cyd") + "<enable/>" + talkText("den", "m", "é") + "<r/><a h='1'/></stream><r/>"},
		{5, resumeText(2, "ann-0") + talkText("den", "m", "x") + "<a h='5'/><r/>" + leaveText("den") + "<zz/>"},
		{5, resumeText(7, "ann-0") + " <enable/> " + joinText("den", "Ann") + askText("den", "q", "max='4'") + "<a h='9'/>" + joinText("den", "Ann")},
		{5, joinText("den", "Ann") + "<r/>\n" + rankText("den", "r", "bob", "outcast") + "x" + leaveText("den")},
		{2, leaveText("den") + joinText("den", "Bob") + "<a><b"},
		{2, "</stream>" + joinText("den", "Bob")},
		{1, "<r/>"},
	} {
		checkCuts(t, h.s, c.link, c.bytes, everyPlace(c.bytes))
		// Byte by byte.
		whole, all := impl.ServerFeed(h.s, c.link, c.bytes)
		x := h.fork()
		var out []impl.Out
		for i := range len(c.bytes) {
			out = append(out, x.step(impl.ServerFeed(x.s, c.link, c.bytes[i:i+1]))...)
		}
		if !sameServer(x.s, whole) || !slices.Equal(out, all) {
			t.Errorf("byte by byte %q does %+v, %+v", c.bytes, x.s, out)
		}
	}
	d := newDice()
	for range 10 {
		p := newPlayer(t, d)
		p.play(50, func() {
			bytes := d.saidBytes()
			checkCuts(t, p.s, p.link(), bytes, []int{d.IntN(len(bytes) + 1), d.IntN(len(bytes) + 1)})
		})
	}
}

// checkCut holds a server without a link against what it was.
func checkCut(t *testing.T, s impl.Server, at int) bool {
	t.Helper()
	x := s.Sess[at]
	got, out := impl.ServerCut(s, x.Link)
	if !impl.ServerOk(got) || got.Next != s.Next {
		t.Fatalf("ServerCut(%+v, %d) is %+v", s, x.Link, got)
	}
	if x.On && !x.Line.Over {
		want := cloneServer(s)
		want.Sess[at].Link, want.Sess[at].Stream = -1, impl.Stream{}
		if !sameServer(got, want) || len(out) > 0 {
			t.Fatalf("ServerCut(%+v, %d) is %+v, %v", s, x.Link, got, out)
		}
		return true
	}
	rest := slices.Delete(slices.Clone(s.Sess), at, at+1)
	same := slices.EqualFunc(got.Sess, rest, func(a, b impl.Sess) bool { return a.Link == b.Link && a.User == b.User && a.Key == b.Key })
	two := slices.ContainsFunc(rest, func(y impl.Sess) bool { return x.User != "" && y.User == x.User })
	if !same || two && !sameServer(got, impl.Server{Accounts: s.Accounts, Log: s.Log, Journal: s.Journal, Sess: rest, Next: s.Next}) {
		t.Fatalf("ServerCut(%+v, %d) is %+v", s, x.Link, got)
	}
	for _, e := range got.Log[len(s.Log):] {
		if e.Kind != impl.EntryLeave || e.Num != impl.LeaveLost || e.User != x.User {
			t.Fatalf("by ServerCut of %s there happens %+v", x.User, e)
		}
	}
	for _, name := range []string{"den", "hall", "nook"} {
		if _, there := memberOf(impl.RoomOf(got.Journal, name), x.User); there && !two {
			t.Fatalf("%s is still in %s", x.User, name)
		}
	}
	return false
}

func TestP49WhoHasCountsCanGoOn(t *testing.T) {
	d := newDice()
	kept, gone := 0, 0
	look := func(s impl.Server) {
		for at, x := range s.Sess {
			if x.Link < 0 {
				continue
			}
			if checkCut(t, s, at) {
				kept++
			} else {
				gone++
			}
		}
	}
	for _, s := range serversOk() {
		look(s)
	}
	for range 8 {
		p := newPlayer(t, d)
		p.play(60, func() { look(p.s) })
	}
	if kept < 200 || gone < 200 {
		t.Error(kept, gone)
	}
}

// A line that is over cannot be gone on with: who loses it is gone at once, as all others are told.
func TestALineThatIsOverWhenItsLinkIsCut(t *testing.T) {
	h := newHub(t, "ann", "bob")
	h.enter(1, "ann", "<enable/>", joinText("den", "Ann"))
	h.enter(2, "bob", joinText("den", "Bob"))
	for i := range 6 {
		h.step(impl.ServerFeed(h.s, 2, talkText("den", fmt.Sprint(i), "x")))
	}
	full := h.fork()
	if x := h.at(1); x.Line.Over || len(x.Line.Queue) != 8 {
		t.Fatal(x)
	}
	full.cut(1)
	full.expectSess("-1+ann 2bob")
	h.feed(2, talkText("den", "m", "x"), by("1+", talkTold("den", 9, "bob", "m", "x")), by("2", talkTold("den", 9, "bob", "m", "x")))
	if x := h.at(1); !x.Line.Over || len(x.Told) != 9 {
		t.Fatal(x)
	}
	// It still goes out, and counts; what is told to have come is not believed.
	h.feed(1, "<r/>"+talkText("den", "n", "y"), by("1", "<a h='1'/>"), by("1+", talkTold("den", 10, "ann", "n", "y")), by("2", talkTold("den", 10, "ann", "n", "y")))
	broken := h.fork()
	broken.feed(1, "<a h='9'/>", by("1", "<broken code='4'/>", streamEnded), by("2", leaveTold("den", 11, "ann", 3)))
	broken.expectSess("2bob")
	h.cut(1, by("2", leaveTold("den", 11, "ann", 3)))
	h.expectSess("2bob")
}

func TestP50WhoDoesNotComeBackLeaves(t *testing.T) {
	d := newDice()
	lost := 0
	look := func(s impl.Server) {
		x := &hub{t, cloneServer(s)}
		var kept []string
		for _, y := range s.Sess {
			if y.Link >= 0 {
				kept = append(kept, fmt.Sprint(y.Link, y.User, y.Key))
			}
		}
		lost += len(s.Sess) - len(kept)
		for range impl.IdleMax + 1 {
			x.step(impl.ServerTick(x.s))
		}
		var got []string
		for _, y := range x.s.Sess {
			got = append(got, fmt.Sprint(y.Link, y.User, y.Key))
		}
		if !slices.Equal(got, kept) {
			t.Fatalf("of %+v behind four ticks there are %+v", s.Sess, x.s.Sess)
		}
		for _, e := range x.s.Log[len(s.Log):] {
			if e.Kind != impl.EntryLeave || e.Num != impl.LeaveLost {
				t.Fatalf("by ServerTick there happens %+v", e)
			}
		}
		was := x.s
		x.tick()
		x.expectSame(was)
	}
	for _, s := range serversOk() {
		look(s)
	}
	for range 8 {
		p := newPlayer(t, d)
		p.play(60, func() { look(p.s) })
	}
	if lost < 80 {
		t.Error(lost)
	}
}

func TestTicksAreCounted(t *testing.T) {
	h := newHub(t, "ann", "bob")
	h.enter(1, "ann", "<enable/>", joinText("den", "Ann"))
	h.enter(2, "bob", "<enable/>")
	h.tick()
	if h.at(1).Idle != 0 || h.at(2).Idle != 0 {
		t.Error(h.s.Sess)
	}
	h.cut(1)
	h.tick()
	h.cut(2)
	for i := 2; i <= 3; i++ {
		h.tick()
		if h.s.Sess[0].Idle != i || h.s.Sess[1].Idle != i-1 {
			t.Error(h.s.Sess)
		}
	}
	h.tick()
	h.expectSess("-1+bob")
	h.expectLog(leaveTold("den", 2, "ann", 3))
	h.tick()
	h.expectSess("")
	h.expectLog(leaveTold("den", 2, "ann", 3))
}

// Several who leave at one tick, in several rooms: one session after the other, each room by room as the rooms began.
func TestSeveralLeaveAtOneTick(t *testing.T) {
	h := newHub(t, "ann", "bob", "cyd", "dan")
	h.enter(1, "ann", "<enable/>", joinText("nook", "Ann"), joinText("den", "Ann"))
	h.enter(2, "bob", "<enable/>", joinText("hall", "Bob"), joinText("den", "Bob"))
	h.enter(3, "cyd", joinText("den", "Cyd"), joinText("nook", "Cyd"), joinText("hall", "Cyd"))
	h.enter(4, "dan", "<enable/>", joinText("hall", "Dan"))
	h.cut(2)
	h.cut(1)
	h.tick()
	h.cut(4)
	h.tick()
	h.tick()
	h.tick(
		by("3", leaveTold("nook", 3, "ann", 3), leaveTold("den", 4, "ann", 3)),
		by("3", leaveTold("den", 5, "bob", 3), leaveTold("hall", 4, "bob", 3)),
	)
	h.expectSess("3cyd -1+dan")
	h.expectLog(leaveTold("nook", 3, "ann", 3), leaveTold("den", 4, "ann", 3), leaveTold("den", 5, "bob", 3), leaveTold("hall", 4, "bob", 3))
	if x := h.lost("dan"); x.Idle != 3 || x.Told[len(x.Told)-1] != leaveTold("hall", 4, "bob", 3) {
		t.Error(x)
	}
	h.tick(by("3", leaveTold("hall", 5, "dan", 3)))
	// When all are gone the rooms stay, with what happened there.
	h.cut(3)
	h.expectLog(leaveTold("nook", 4, "cyd", 3), leaveTold("den", 6, "cyd", 3), leaveTold("hall", 6, "cyd", 3))
	h.expectSess("")
}

func TestFeedMaxBytesAtOnce(t *testing.T) {
	h := newHub(t, "ann")
	h.enter(1, "ann", "<enable/>")
	was := h.s
	bytes := strings.Repeat("<x/>", 500)
	h.feed(1, bytes+" ")
	h.expectSame(was)
	h.feed(1, bytes+bytes)
	h.expectSame(was)
	h.feed(1, bytes, slices.Repeat(by("1+", "<error code='1'/>"), 500))
	if x := h.at(1); len(x.Told) != 500 || !x.Line.Over {
		t.Error(len(x.Told), x.Line)
	}
}

func TestToldFullAheadOfMoreBytes(t *testing.T) {
	for _, at := range []int{0, 2} {
		full := livelySess(at, func(x *impl.Sess) { x.Told = told(400) })
		more := livelySess(at, func(x *impl.Sess) { x.Told = told(401) })
		// Whoever was told too much: no link takes more.
		for link, bytes := range map[int]string{4: "<r/>", 0: "/>", 99: "<r/>", 11: "eam>"} {
			if _, out := impl.ServerFeed(full, link, bytes); len(out) != 1 {
				t.Errorf("with 400 told, there goes out %v", out)
			}
			if got, out := impl.ServerFeed(more, link, bytes); !sameServer(got, more) || len(out) > 0 {
				t.Errorf("with 401 told, there goes out %v, of %+v", out, got.Sess[1:2])
			}
		}
		// A link that is lost, and time that passes, wait for nothing.
		if got, _ := impl.ServerCut(more, 99); len(got.Sess) != 4 {
			t.Errorf("with 401 told, a link cannot be cut")
		}
		if got, _ := impl.ServerTick(more); got.Sess[2].Idle != 3 {
			t.Errorf("with 401 told, no time passes")
		}
	}
	// From ToldFull on as much as may come at once is never too much.
	h := &hub{t, livelySess(0, func(x *impl.Sess) { x.Told = told(400) })}
	h.feed(4, strings.Repeat("<x/>", 500), slices.Repeat(by("4+", "<error code='1'/>"), 500))
	if len(h.at(4).Told) != 900 {
		t.Error(len(h.at(4).Told))
	}
	// Nor is it, with that, that all others leave.
	h.leaveAll()
}

func TestKeysRunOut(t *testing.T) {
	h := newHub(t, "ann", "bob")
	h.s.Next = 9898
	h.enter(1, "ann", "<enable/>")
	if h.at(1).Key != "ann-9898" || h.s.Next != 9899 {
		t.Fatal(h.s)
	}
	for _, next := range []int{9899, 9900, 9999} {
		h.s.Next = next
		was := h.s
		h.feed(1, "<r/>")
		h.expectSame(was)
	}
	h.cut(1)
	h.expectSess("-1+ann")
	h.s.Next = 9898
	h.enter(2, "ann")
	h.feed(2, resumeText(0, "ann-9898"), by("2", "<resumed h='0' id='ann-9898'/>"))
}

func TestRoomsMax(t *testing.T) {
	h := newHub(t, "ann", "bob")
	h.enter(1, "ann", joinText("den", "Ann"), joinText("hall", "Ann"))
	h.enter(2, "bob", "<enable/>")
	h.feed(1, joinText("nook", "Ann"), by("1", joinTold("nook", 1, "ann", 3)))
	log := len(h.s.Log)
	h.feed(1, joinText("attic", "Ann"), by("1", "<error code='5'/>"))
	h.feed(2, joinText("attic", "Bob"), by("2+", "<error code='5'/>"))
	h.feed(2, talkText("attic", "m", "x")+leaveText("attic"), by("2+", "<error code='2' id='m'/>", "<error code='2'/>"))
	if len(h.s.Log) != log {
		t.Error(h.s.Log[log:])
	}
	// A room in which nobody is any more is still one.
	h.feed(1, leaveText("nook")+joinText("attic", "Ann"), by("1", leaveTold("nook", 2, "ann", 0), "<error code='5'/>"))
	h.feed(2, joinText("nook", "Bob"), by("2+", joinTold("nook", 3, "bob", 2)))
}

// talkUp lets ann, in den by the link 1, talk until Log, with each member counted as one more, has so many.
func (h *hub) talkUp(many int) {
	h.Helper()
	for {
		n := len(h.s.Log)
		for _, name := range []string{"den", "hall", "nook"} {
			n += len(impl.RoomOf(h.s.Journal, name).Members)
		}
		if n >= many {
			return
		}
		// Several come at once, as each step is looked at as a whole.
		h.step(impl.ServerFeed(h.s, 1, strings.Repeat(talkText("den", "m", "x"), min(many-n, 10))))
	}
}

// There must always be room for all to leave, so that each member counts as an entry more.
func TestLogMaxWithRoomForAllToLeave(t *testing.T) {
	talked := newHub(t, "ann", "bob", "cyd")
	talked.enter(1, "ann", joinText("den", "Ann"))
	talked.enter(2, "bob", joinText("den", "Bob"))
	talked.enter(3, "cyd")
	talked.talkUp(117)
	for _, c := range []struct {
		link  int
		bytes string
		more  int
		id    string
	}{
		{1, talkText("den", "m", "x"), 1, " id='m'"},
		{1, subjectText("den", "m", "x"), 1, " id='m'"},
		{2, joinText("hall", "Bob"), 3, ""},
		{2, joinText("den", "B"), 0, ""},
		{2, leaveText("den"), 0, ""},
		{3, joinText("den", "Cyd"), 2, ""},
		{1, roleText("den", "r", "Bob", "visitor"), 1, " id='r'"},
		{1, roleText("den", "r", "Bob", "none"), 0, ""},
		{1, roleText("den", "r", "Bob", "part"), 0, ""},
		{1, rankText("den", "r", "bob", "outcast"), 1, " id='r'"},
		{1, rankText("den", "r", "bob", "owner"), 2, " id='r'"},
		{1, rankText("den", "r", "zoe", "outcast"), 1, " id='r'"},
		{1, rankText("den", "r", "zoe", "none"), 0, ""},
		{1, askText("den", "q", "max='4'"), 0, ""},
	} {
		h := talked.fork()
		// Just as much as there is room for may happen.
		h.talkUp(120 - c.more)
		x, before := h.fork(), len(h.s.Log)
		for _, o := range x.step(impl.ServerFeed(x.s, c.link, c.bytes)) {
			if strings.HasPrefix(o.Text, "<error code='5'") {
				t.Errorf("%s has no room at %d", c.bytes, len(h.s.Log))
			}
		}
		if c.more > 0 && len(x.s.Log) == before {
			t.Errorf("by %s nothing happens", c.bytes)
		}
		x.leaveAll()
		if c.more == 0 {
			continue
		}
		// With one more there is none.
		h.talkUp(121 - c.more)
		was := h.s
		h.feed(c.link, c.bytes, by(fmt.Sprint(c.link), "<error code='5'"+c.id+"/>"))
		h.expectSame(was)
		h.leaveAll()
	}
}

// With nobody in a room Log may have LogMax entries: then nobody can come any more, as they could not leave, and what they would own is not begun.
func TestAFullLogLetsNobodyCome(t *testing.T) {
	talked := newHub(t, "ann", "bob")
	talked.enter(1, "ann", joinText("den", "Ann"))
	talked.enter(2, "bob", "<enable/>")
	talked.talkUp(116)
	for many := 116; many <= impl.LogMax; many++ {
		h := talked.fork()
		h.talkUp(many)
		h.feed(1, leaveText("den"), by("1", leaveTold("den", many-1, "ann", 0)))
		checkRisen(t, h.s.Accounts, h.s.Journal, h.s.Next)
		for _, c := range []struct {
			link  string
			room  string
			more  int
			comes []string
		}{
			{"1", "den", 2, by("1", joinTold("den", many, "ann", 3))},
			{"2+", "den", 2, by("2+", joinTold("den", many, "bob", 2))},
			{"1", "hall", 3, by("1", joinTold("hall", 1, "ann", 3))},
			{"2+", "hall", 3, by("2+", joinTold("hall", 1, "bob", 3))},
		} {
			x := h.fork()
			link, user := int(c.link[0]-'0'), h.at(int(c.link[0]-'0')).User
			if many+c.more <= impl.LogMax {
				x.feed(link, joinText(c.room, nickOf(user)), c.comes)
			} else {
				x.feed(link, joinText(c.room, nickOf(user)), by(c.link, "<error code='5'/>"))
				if len(x.s.Log) != many {
					t.Errorf("behind %d entries there happens %+v", many, x.s.Log[many:])
				}
			}
			x.leaveAll()
		}
	}
}

// leaveAll cuts all links, waits until nobody comes back, and looks whether all could leave.
func (h *hub) leaveAll() {
	h.Helper()
	up := impl.ServerRise(h.s.Accounts, h.s.Journal, h.s.Next)
	if !impl.ServerOk(up) {
		h.Fatalf("it does not rise from %+v", h.s)
	}
	for _, x := range h.s.Sess {
		h.step(impl.ServerCut(h.s, x.Link))
	}
	for range impl.IdleMax + 1 {
		h.step(impl.ServerTick(h.s))
	}
	if len(h.s.Sess) > 0 {
		h.Fatalf("there is still %+v", h.s.Sess)
	}
	if len(h.s.Log) != len(up.Log) || len(h.s.Log) > impl.LogMax {
		h.Fatalf("%d have happened, not %d", len(h.s.Log), len(up.Log))
	}
}

// A server of one user, whose name is as long as can be: from the key 1000 on it has more bytes than a word, and cannot be said.
func TestAKeyThatIsNoWord(t *testing.T) {
	for next, want := range map[int]string{999: "<resumed h='0' id='abcdefgh-999'/>", 1000: "<error code='1'/>"} {
		h := newHub(t, "abcdefgh")
		h.s.Next = next
		h.enter(1, "abcdefgh", "<enable/>")
		h.cut(1)
		h.enter(2, "abcdefgh")
		h.feed(2, resumeText(0, fmt.Sprintf("abcdefgh-%d", next)), by("2", want))
	}
}
