package tests

import (
	"fmt"
	"math"
	"slices"
	"strings"
	"testing"

	"loop.example/hubbub/impl"
)

func TestItemsThatCome(t *testing.T) {
	h := newHub(t, "ann", "bob")
	h.open(3, 5)
	h.feed(3, "")
	h.feed(3, " \n<str")
	h.feed(3, "eam>", by("3", streamBegun))
	h.feed(3, authText("ann"), by("3", "<success/>"))
	h.feed(3, joinText("den", "Ann"), by("3", joinTold("den", 1, "ann", 3)))
	h.feed(5, "<stream xmlns='q'>"+authText("bob")+"<enable/>"+joinText("den", "Bob"),
		by("5", streamBegun, "<success/>", "<enabled id='bob-0'/>"), by("3", joinTold("den", 2, "bob", 2)), by("5+", joinTold("den", 2, "bob", 2)))
	h.expectSess("3ann 5+bob")
	for _, c := range []struct {
		bytes string
		out   []string
	}{
		{"</stream>", by("3", streamEnded)},
		{"</stream >", by("3", streamEnded)},
		{"x", by("3", "<broken code='2'/>", streamEnded)},
		{"</x>", by("3", "<broken code='2'/>", streamEnded)},
		{"<a b='1' b='1'/>", by("3", "<broken code='2'/>", streamEnded)},
		{"<a><a><a><a><a><a/>", by("3", "<broken code='3'/>", streamEnded)},
		{"<a>" + strings.Repeat("x", 700), by("3", "<broken code='3'/>", streamEnded)},
		{"<r/></stream>", by("3", "<a h='0'/>", streamEnded)},
		{"<r/>x", by("3", "<a h='0'/>", "<broken code='2'/>", streamEnded)},
	} {
		// Whatever comes behind what ends it does nothing.
		for _, more := range []string{"", "<r/>", "</stream>", "<stream>" + authText("ann"), "x"} {
			x := h.fork()
			x.feed(3, c.bytes+more, c.out, by("5+", leaveTold("den", 3, "ann", 3)))
			x.expectSess("5+bob")
			x.feed(3, "<r/>")
			x.feed(3, "")
		}
	}
}

func TestAStreamThatBreaksAheadOfItsBeginning(t *testing.T) {
	for _, bytes := range []string{"x", "<r/>", "<stream/>", "</stream>", "<other>"} {
		h := newHub(t, "ann")
		h.open(0)
		h.feed(0, bytes, by("0", "<broken code='2'/>", streamEnded))
		h.expectSess("")
	}
	h := newHub(t, "ann")
	h.open(0)
	h.feed(0, "<stream a='"+strings.Repeat("x", 700), by("0", "<broken code='3'/>", streamEnded))
	h.expectSess("")
}

func TestALinkOfNoSession(t *testing.T) {
	for _, s := range serversOk() {
		for _, link := range []int{-1, -2, 1, 50, 100, math.MinInt, math.MaxInt} {
			if got, out := impl.ServerFeed(s, link, "<r/>"); len(out) > 0 || !sameServer(got, s) {
				t.Errorf("ServerFeed(%+v, %d) is %+v, %v", s, link, got, out)
			}
			if got, out := impl.ServerCut(s, link); len(out) > 0 || !sameServer(got, s) {
				t.Errorf("ServerCut(%+v, %d) is %+v, %v", s, link, got, out)
			}
		}
	}
}

func TestWhoIsNobodyIsRefused(t *testing.T) {
	h := newHub(t, "ann", "bob")
	h.open(1)
	h.feed(1, "<stream>", by("1", streamBegun))
	var texts []string
	for _, c := range sayCases {
		texts = append(texts, c.text)
	}
	texts = append(texts, saysNothing...)
	texts = append(texts, "<auth pass='pbob' user='ann'/>", "<auth pass='pan' user='ann'/>", "<auth pass='panns' user='ann'/>", "<auth pass='Pann' user='ann'/>", "<auth pass='pcyd' user='cyd'/>", "<auth pass='pann' user='ann' x='1'/>", "<iq id='q' to='den@rooms.local' type='set'><rank rank='owner' user='ann'/></iq>")
	was := h.s
	for _, text := range texts {
		h.feed(1, text, by("1", "<failure/>"))
		h.expectSame(was)
	}
	h.feed(1, authText("ann"), by("1", "<success/>"))
	h.expectSess("1ann")
}

func TestLoginOfWhoHasASession(t *testing.T) {
	h := newHub(t, "ann", "bob")
	h.enter(1, "ann", joinText("den", "Ann"))
	h.open(2)
	// A session with a link is in the way, be it with counts or without.
	h.feed(2, "<stream>"+authText("ann"), by("2", streamBegun, "<failure/>"))
	h.feed(1, "<enable/>", by("1", "<enabled id='ann-0'/>"))
	h.feed(2, authText("ann"), by("2", "<failure/>"))
	h.expectSess("1+ann 2")
	// One without a link is not.
	h.cut(1)
	h.feed(2, authText("bob")+authText("ann"), by("2", "<success/>", "<error code='1'/>"))
	h.cut(2)
	h.open(2, 3)
	h.feed(2, "<stream>"+authText("ann"), by("2", streamBegun, "<success/>"))
	h.expectSess("-1+ann 2ann 3")
	h.feed(3, "<stream>"+authText("ann"), by("3", streamBegun, "<failure/>"))
	h.feed(3, authText("bob"), by("3", "<success/>"))
	h.expectSess("-1+ann 2ann 3bob")
}

func TestWhatSaysNothingIsToldSo(t *testing.T) {
	h := newHub(t, "ann", "bob")
	h.enter(1, "ann", joinText("den", "Ann"))
	h.enter(2, "bob", "<enable/>", joinText("den", "Bob"))
	texts := append([]string{authText("ann"), authText("bob"), "<auth pass='x' user='zoe'/>"}, saysNothing...)
	for i, text := range texts {
		was := h.s
		h.feed(1, text, by("1", "<error code='1'/>"))
		h.expectSame(was)
		line := h.at(2).Line
		h.feed(2, text, by("2+", "<error code='1'/>"))
		if x := h.at(2); !sameLine(x.Line, impl.LinePut(line, "<error code='1'/>")) || len(x.Told) != 2+i || x.Told[1+i] != "<error code='1'/>" {
			t.Fatalf("behind %q it is %+v", text, x)
		}
		h.feed(2, fmt.Sprintf("<a h='%d'/>", (2+i)%256))
	}
}

func TestEnable(t *testing.T) {
	h := newHub(t, "ann", "bob")
	h.s.Next = 41
	h.enter(1, "ann")
	h.feed(1, "<enable/>", by("1", "<enabled id='ann-41'/>"))
	if x := h.at(1); !x.On || x.Key != "ann-41" || h.s.Next != 42 || len(x.Told) != 0 || !isNoLine(x.Line) {
		t.Errorf("it is %+v, %d", x, h.s.Next)
	}
	h.feed(1, "<enable/>", by("1+", "<error code='1'/>"))
	if x := h.at(1); x.Key != "ann-41" || h.s.Next != 42 || x.Line.Got != 0 {
		t.Errorf("it is %+v, %d", x, h.s.Next)
	}
	h.enter(2, "bob", joinText("den", "Bob"))
	h.feed(2, "<enable/>"+talkText("den", "m", "x"), by("2", "<enabled id='bob-42'/>"), by("2+", talkTold("den", 2, "bob", "m", "x")))
	h.expectSess("1+ann 2+bob")
}

// A session that could be gone on with ends when its user begins anew, and the one who begins is told.
func TestWhoBeginsAnewLeavesFirst(t *testing.T) {
	for _, c := range []struct {
		bytes  string
		ends   bool
		behind []string
	}{
		{"<enable/>", true, by("5", "<enabled id='ann-2'/>")},
		{joinText("den", "Ann"), true, append(by("2+", joinTold("den", 5, "ann", 3)), by("5", joinTold("den", 5, "ann", 3))...)},
		{joinText("nook", "Ann"), true, by("5", joinTold("nook", 1, "ann", 3))},
		{leaveText("den"), true, by("5", "<error code='2'/>")},
		{talkText("den", "m", "x"), true, by("5", "<error code='2' id='m'/>")},
		{subjectText("den", "m", "x"), true, by("5", "<error code='2' id='m'/>")},
		{roleText("den", "m", "Bob", "mod"), true, by("5", "<error code='2' id='m'/>")},
		{rankText("den", "m", "bob", "admin"), true, by("5", "<error code='2' id='m'/>")},
		{askText("den", "m", "max='1'"), true, by("5", "<error code='2' id='m'/>")},
		{"<r/>", false, by("5", "<a h='0'/>")},
		{"<a h='0'/>", false, by("5", "<error code='1'/>")},
		{"<zz/>", false, by("5", "<error code='1'/>")},
		{authText("ann"), false, by("5", "<error code='1'/>")},
		{resumeText(9, "ann-0"), false, by("5", "<failed code='11'/>")},
		{"", false, nil},
	} {
		h := newHub(t, "ann", "bob")
		h.enter(1, "ann", "<enable/>", joinText("den", "Ann"))
		h.enter(2, "bob", "<enable/>", joinText("den", "Bob"), joinText("hall", "Bob"))
		h.feed(1, joinText("hall", "Ann"), by("1+", joinTold("hall", 2, "ann", 2)), by("2+", joinTold("hall", 2, "ann", 2)))
		h.feed(1, leaveText("hall")+joinText("hall", "Ann"), by("1+", leaveTold("hall", 3, "ann", 0)), by("2+", leaveTold("hall", 3, "ann", 0)), by("1+", joinTold("hall", 4, "ann", 2)), by("2+", joinTold("hall", 4, "ann", 2)))
		h.cut(1)
		h.feed(2, talkText("den", "t", "x"), by("2+", talkTold("den", 3, "bob", "t", "x")))
		h.enter(5, "ann")
		was := h.lost("ann")
		if !c.ends {
			h.feed(5, c.bytes, c.behind)
			h.expectSess("-1+ann 2+bob 5ann")
			if !sameSess(h.lost("ann"), was) {
				t.Errorf("behind %q it is %+v", c.bytes, h.s.Sess)
			}
			continue
		}
		h.feed(5, c.bytes,
			by("2+", leaveTold("den", 4, "ann", 3)), by("5", leaveTold("den", 4, "ann", 3)),
			by("2+", leaveTold("hall", 5, "ann", 3)), by("5", leaveTold("hall", 5, "ann", 3)), c.behind)
		h.expectSess(map[bool]string{true: "2+bob 5+ann", false: "2+bob 5ann"}[c.bytes == "<enable/>"])
	}
}

func TestAck(t *testing.T) {
	h := newHub(t, "ann", "bob")
	h.enter(1, "ann")
	h.feed(1, "<a h='0'/>", by("1", "<error code='1'/>"))
	h.feed(1, "<enable/><a h='0'/>"+joinText("den", "Ann"), by("1", "<enabled id='ann-0'/>"), by("1+", joinTold("den", 1, "ann", 3)))
	for _, n := range []int{2, 3, 255, 128} {
		x := h.fork()
		x.feed(1, fmt.Sprintf("<a h='%d'/><r/>", n), by("1", "<broken code='4'/>", streamEnded))
		x.expectSess("")
		x.expectLog(leaveTold("den", 2, "ann", 3))
	}
	h.feed(1, "<a h='0'/>")
	if x := h.at(1).Line; x.Base != 0 || len(x.Queue) != 1 {
		t.Errorf("it is %+v", x)
	}
	h.feed(1, "<a h='1'/><a h='1'/>")
	if x := h.at(1); !sameLine(x.Line, impl.Line{Base: 1, Got: 1}) || len(x.Told) != 1 {
		t.Errorf("it is %+v", x)
	}
	h.feed(1, "<a h='0'/>", by("1", "<broken code='4'/>", streamEnded))
	h.expectSess("")
}

func TestHowManyCame(t *testing.T) {
	h := newHub(t, "ann", "bob")
	h.enter(1, "ann")
	h.feed(1, "<r/>"+joinText("den", "Ann")+"<r/>", by("1", "<a h='0'/>", joinTold("den", 1, "ann", 3), "<a h='0'/>"))
	h.feed(1, "<enable/><r/>", by("1", "<enabled id='ann-0'/>", "<a h='0'/>"))
	// All that is said to a room counts, whatever comes of it, and nothing else.
	came := 0
	for _, c := range sayCases {
		if c.say.Kind < impl.SayJoin || c.say.Kind == impl.SayLeave {
			continue
		}
		was := h.at(1)
		h.step(impl.ServerFeed(h.s, 1, c.text))
		came++
		if x := h.at(1); x.Line.Got != was.Line.Got+1 || x.Line.Got != came {
			t.Fatalf("behind %s it is %+v", c.text, x)
		}
		h.feed(1, fmt.Sprintf("<a h='%d'/>", impl.LineSent(h.at(1).Line)))
	}
	h.feed(1, "<r/>", by("1", fmt.Sprintf("<a h='%d'/>", came)))
	// Round and round.
	for came < 255 {
		h.feed(1, leaveText("x"), by("1+", "<error code='2'/>"))
		came++
		h.feed(1, fmt.Sprintf("<a h='%d'/>", impl.LineSent(h.at(1).Line)))
	}
	h.feed(1, "<r/>"+leaveText("x")+"<r/>", by("1", "<a h='255'/>"), by("1+", "<error code='2'/>"), by("1", "<a h='0'/>"))
}

// goneOn is a hub in which ann, in den with bob, lost the link 1, was told four texts, two of them meanwhile, and is in again by the link 5.
func goneOn(t *testing.T) *hub {
	h := newHub(t, "ann", "bob", "cyd")
	h.enter(1, "ann", "<enable/>", joinText("den", "Ann"))
	h.enter(2, "bob", joinText("den", "Bob"))
	h.cut(1)
	h.feed(2, talkText("den", "a", "x")+talkText("den", "b", "y"), by("2", talkTold("den", 3, "bob", "a", "x"), talkTold("den", 4, "bob", "b", "y")))
	h.tick()
	h.enter(5, "ann")
	h.expectSess("-1+ann 2bob 5ann")
	return h
}

func TestResume(t *testing.T) {
	queue := []string{joinTold("den", 1, "ann", 3), joinTold("den", 2, "bob", 2), talkTold("den", 3, "bob", "a", "x"), talkTold("den", 4, "bob", "b", "y")}
	for n := range 5 {
		h := goneOn(t)
		was := h.lost("ann")
		if !slices.Equal(was.Line.Queue, queue) || !slices.Equal(was.Told, queue) || was.Idle != 1 {
			t.Fatal(was)
		}
		h.feed(5, resumeText(n, "ann-0")+"<r/>  <r", by("5", "<resumed h='1' id='ann-0'/>"), by("5+", queue[n:]...), by("5", "<a h='1'/>"))
		h.expectSess("5+ann 2bob")
		want := impl.Sess{Link: 5, User: "ann", Stream: impl.Stream{State: impl.StreamOn, Buf: "<r"}, On: true, Key: "ann-0", Line: impl.Line{Base: n, Queue: queue[n:], Got: 1}, Told: queue}
		if x := h.at(5); !sameSess(x, want) {
			t.Errorf("it is %+v, not %+v", x, want)
		}
		h.expectLog(queue[3])
		// Twice it cannot be, with counts it cannot be.
		h.feed(5, "/>"+resumeText(n, "ann-0"), by("5", "<a h='1'/>", "<failed code='11'/>"))
		h.feed(5, "<enable/>", by("5+", "<error code='1'/>"))
		h.feed(2, talkText("den", "c", "z"), by("5+", talkTold("den", 5, "bob", "c", "z")), by("2", talkTold("den", 5, "bob", "c", "z")))
		h.tick()
		if h.at(5).Idle != 0 {
			t.Error(h.at(5))
		}
	}
}

func TestResumeThatFails(t *testing.T) {
	for _, text := range []string{resumeText(5, "ann-0"), resumeText(255, "ann-0"), resumeText(0, "ann-1"), resumeText(0, "ann-00"), resumeText(0, "bob-0"), resumeText(0, "ann"), resumeText(0, "Ann-0"), resumeText(0, "5")} {
		h := goneOn(t)
		was := h.s
		h.feed(5, text, by("5", "<failed code='11'/>"))
		h.expectSame(was)
		// A right one is not in its way.
		h.feed(5, text+resumeText(4, "ann-0"), by("5", "<failed code='11'/>", "<resumed h='1' id='ann-0'/>"))
		h.expectSess("5+ann 2bob")
	}
	// The key of another user.
	h := goneOn(t)
	h.enter(7, "cyd")
	was := h.s
	h.feed(7, resumeText(0, "ann-0"), by("7", "<failed code='11'/>"))
	h.feed(2, resumeText(0, "ann-0"), by("2", "<failed code='11'/>"))
	h.expectSame(was)
	h.feed(7, "<enable/>", by("7", "<enabled id='cyd-1'/>"))
	h.cut(7)
	h.feed(5, resumeText(0, "cyd-1"), by("5", "<failed code='11'/>"))
	// With counts there is nothing to go on with, not even what has a link.
	h = newHub(t, "ann")
	h.enter(1, "ann", "<enable/>")
	h.feed(1, resumeText(0, "ann-0"), by("1", "<failed code='11'/>"))
	h.expectSess("1+ann")
	// What could be gone on with is gone behind all else that is said to a room.
	h = goneOn(t)
	h.step(impl.ServerFeed(h.s, 5, leaveText("nook")))
	h.feed(5, resumeText(0, "ann-0"), by("5", "<failed code='11'/>"))
}

// A line that was told too much while it was lost cannot be gone on with.
func TestResumeOfALineThatIsOver(t *testing.T) {
	h := goneOn(t)
	for i := range 4 {
		h.step(impl.ServerFeed(h.s, 2, talkText("den", fmt.Sprint(i), "x")))
	}
	if x := h.lost("ann"); x.Line.Over || len(x.Line.Queue) != 8 || len(x.Told) != 8 {
		t.Fatal(x)
	}
	all := h.fork()
	all.feed(5, resumeText(0, "ann-0"), by("5", "<resumed h='1' id='ann-0'/>"), by("5+", all.at(-1).Told...))
	h.step(impl.ServerFeed(h.s, 2, talkText("den", "5", "x")))
	if x := h.lost("ann"); !x.Line.Over || len(x.Line.Queue) != 0 || len(x.Told) != 9 || x.Told[8] != talkTold("den", 9, "bob", "5", "x") {
		t.Fatal(x)
	}
	for n := range 10 {
		h.feed(5, resumeText(n, "ann-0"), by("5", "<failed code='11'/>"))
	}
	h.expectSess("-1+ann 2bob 5ann")
}

func TestPages(t *testing.T) {
	h := newHub(t, "ann", "bob")
	h.enter(1, "ann", joinText("den", "Ann"))
	h.feed(1, askText("den", "q", "max='1'"), by("1", "<page all='yes' count='0' id='q'/>"))
	texts := []string{""}
	for i := 1; i <= 5; i++ {
		h.step(impl.ServerFeed(h.s, 1, talkText("den", fmt.Sprint("m", i), "a&lt;b")))
		texts = append(texts, talkTold("den", 1+i, "ann", fmt.Sprint("m", i), "a&lt;b"))
	}
	h.feed(1, askText("den", "&lt;", "max='1'"), by("1", "<page all='no' count='5' id='&lt;'>"+texts[1]+"</page>"))
	h.feed(1, askText("den", "q", "max='4'"), by("1", "<page all='no' count='5' id='q'>"+strings.Join(texts[1:5], "")+"</page>"))
	h.feed(1, askText("den", "q", "after='5' max='4'"), by("1", "<page all='yes' count='5' id='q'>"+texts[5]+"</page>"))
	h.feed(1, askText("den", "q", "after='6' max='4'"), by("1", "<page all='yes' count='5' id='q'/>"))
	h.feed(1, askText("den", "q", "before='6' max='2'"), by("1", "<page all='no' count='5' id='q'>"+texts[3]+texts[4]+"</page>"))
	h.feed(1, askText("den", "q", "max='4' with='bob'"), by("1", "<page all='yes' count='0' id='q'/>"))
	h.feed(1, askText("den", "q", "after='1' max='4'"), by("1", "<error code='11' id='q'/>"))
	h.feed(1, askText("hall", "q", "max='4'"), by("1", "<error code='2' id='q'/>"))
	// It is told, not sent.
	h.feed(1, "<enable/>"+askText("den", "q", "max='1'")+askText("den", "q", "before='0' max='1'"), by("1", "<enabled id='ann-0'/>"), by("1+", "<page all='no' count='5' id='q'>"+texts[1]+"</page>", "<error code='11' id='q'/>"))
	if x := h.at(1); len(x.Told) != 2 || len(x.Line.Queue) != 2 || x.Line.Got != 2 {
		t.Errorf("it is %+v", x)
	}
	// Who is not in the room is told so, even if they were, and nothing happens by asking.
	h.feed(1, leaveText("den"), by("1+", leaveTold("den", 7, "ann", 0)))
	log := len(h.s.Log)
	h.feed(1, askText("den", "q", "max='1'")+askText("den", "q", "after='1' max='1'"), by("1+", "<error code='2' id='q'/>", "<error code='2' id='q'/>"))
	if len(h.s.Log) != log {
		t.Error(h.s.Log[log:])
	}
}

// The longest page there is can be told.
func TestTheLongestPage(t *testing.T) {
	h := newHub(t, "abcdefgh")
	nick, id, body := strings.Repeat("'", 10), strings.Repeat("&quot;", 12), strings.Repeat("&apos;", 60)
	h.enter(1, "abcdefgh", joinText("abcdefgh", strings.ReplaceAll(nick, "'", "&apos;")), "<enable/>")
	for range 4 {
		h.step(impl.ServerFeed(h.s, 1, talkText("abcdefgh", id, body)))
	}
	h.feed(1, "<a h='4'/>")
	h.step(impl.ServerFeed(h.s, 1, askText("abcdefgh", id, "max='4'")))
	if x := h.at(1); len(x.Line.Queue) != 1 || len(x.Line.Queue[0]) < 2000 || len(x.Line.Queue[0]) > impl.TellMax || strings.Count(x.Line.Queue[0], "<entry ") != 4 {
		t.Errorf("it is %+v", x)
	}
}

func TestWhatIsSaidToARoom(t *testing.T) {
	h := newHub(t, "ann", "bob", "cyd")
	h.enter(1, "ann", joinText("den", "Ann"))
	h.enter(2, "bob", "<enable/>")
	h.feed(2, leaveText("den"), by("2+", "<error code='2'/>"))
	h.feed(2, joinText("den", "Ann"), by("2+", "<error code='4'/>"))
	h.feed(2, joinText("den", "Bob"), by("1", joinTold("den", 2, "bob", 2)), by("2+", joinTold("den", 2, "bob", 2)))
	h.feed(2, joinText("den", "Bo"), by("2+", "<error code='3'/>"))
	h.feed(2, subjectText("den", "s", "x"), by("2+", "<error code='7' id='s'/>"))
	h.feed(2, "<a h='5'/>")
	h.feed(1, subjectText("den", "s", "x"), by("1", "<entry id='s' kind='subject' nick='Ann' room='den' seq='3' user='ann'>x</entry>"), by("2+", "<entry id='s' kind='subject' nick='Ann' room='den' seq='3' user='ann'>x</entry>"))
	h.feed(1, roleText("den", "r", "Cyd", "mod"), by("1", "<error code='8' id='r'/>"))
	h.feed(1, roleText("den", "r", "Bob", "visitor"), by("1", roleTold("den", 4, "bob", 1)), by("2+", roleTold("den", 4, "bob", 1)))
	h.feed(1, roleText("den", "r", "Bob", "visitor")+rankText("den", "r", "bob", "none"))
	h.feed(2, talkText("den", "m&lt;", "x"), by("2+", "<error code='7' id='m&lt;'/>"))
	h.feed(1, rankText("den", "r", "bob", "admin"), by("1", rankTold("den", 5, "bob", 3)), by("2+", rankTold("den", 5, "bob", 3)), by("1", roleTold("den", 6, "bob", 3)), by("2+", roleTold("den", 6, "bob", 3)))
	h.feed(1, rankText("den", "r", "ann", "none"), by("1", "<error code='9' id='r'/>"))
	h.feed(1, strings.Replace(talkText("den", "m", "x"), "</body>", "</body><replace id='m0'/>", 1), by("1", "<error code='10' id='m'/>"))
	h.feed(1, talkText("den", "m0", "x"), by("1", talkTold("den", 7, "ann", "m0", "x")), by("2+", talkTold("den", 7, "ann", "m0", "x")))
	again := "<entry id='m' kind='talk' nick='Ann' ref='m0' room='den' seq='8' user='ann'>y</entry>"
	h.feed(1, strings.Replace(talkText("den", "m", "y"), "</body>", "</body><replace id='m0'/>", 1), by("1", again), by("2+", again))
	h.feed(1, rankText("den", "r", "zoe", "outcast"), by("1", rankTold("den", 9, "zoe", 0)), by("2+", rankTold("den", 9, "zoe", 0)))
	// What changes nothing is not answered.
	log := len(h.s.Log)
	h.feed(1, rankText("den", "r", "zoe", "outcast"))
	if len(h.s.Log) != log {
		t.Error(h.s.Log[log:])
	}
}

// Who is told when somebody leaves: all who are in that room, and who left; nobody else.
func TestWhoIsToldThatSomebodyLeft(t *testing.T) {
	start := func() *hub {
		h := newHub(t, "ann", "bob", "cyd", "dan")
		h.enter(1, "ann", joinText("den", "Ann"))
		h.enter(2, "bob", "<enable/>", joinText("den", "Bob"), joinText("hall", "Bob"))
		h.enter(3, "cyd", joinText("den", "Cyd"))
		h.enter(4, "dan", joinText("hall", "Dan"))
		h.open(5)
		return h
	}
	h := start()
	h.feed(3, leaveText("den"), by("1", leaveTold("den", 4, "cyd", 0)), by("2+", leaveTold("den", 4, "cyd", 0)), by("3", leaveTold("den", 4, "cyd", 0)))
	h.feed(2, leaveText("den"), by("1", leaveTold("den", 5, "bob", 0)), by("2+", leaveTold("den", 5, "bob", 0)))
	h.feed(1, leaveText("den"), by("1", leaveTold("den", 6, "ann", 0)))
	h.feed(1, joinText("den", "Ann"), by("1", joinTold("den", 7, "ann", 3)))
	h = start()
	h.feed(1, roleText("den", "r", "Bob", "none"), by("1", leaveTold("den", 4, "bob", 1)), by("2+", leaveTold("den", 4, "bob", 1)), by("3", leaveTold("den", 4, "bob", 1)))
	h = start()
	// Who is put out is told that they left, but no more of the room.
	h.feed(1, rankText("den", "r", "cyd", "outcast"),
		by("1", leaveTold("den", 4, "cyd", 2)), by("2+", leaveTold("den", 4, "cyd", 2)), by("3", leaveTold("den", 4, "cyd", 2)),
		by("1", rankTold("den", 5, "cyd", 0)), by("2+", rankTold("den", 5, "cyd", 0)))
	h.feed(3, joinText("den", "Cyd"), by("3", "<error code='6'/>"))
	h = start()
	h.feed(2, streamEnded, by("2", streamEnded), by("1", leaveTold("den", 4, "bob", 3)), by("3", leaveTold("den", 4, "bob", 3)), by("4", leaveTold("hall", 3, "bob", 3)))
	h.expectSess("1ann 3cyd 4dan 5")
	h = start()
	h.cut(3, by("1", leaveTold("den", 4, "cyd", 3)), by("2+", leaveTold("den", 4, "cyd", 3)))
	h.cut(5)
	h.expectSess("1ann 2+bob 4dan")
	h = start()
	h.cut(2)
	h.cut(1, by("3", leaveTold("den", 4, "ann", 3)))
	if x := h.lost("bob"); x.Told[len(x.Told)-1] != leaveTold("den", 4, "ann", 3) || x.Line.Queue[len(x.Line.Queue)-1] != leaveTold("den", 4, "ann", 3) {
		t.Error(x)
	}
}

// A user with two sessions is told by the one that waits to be gone on with, and by that alone.
func TestAUserWithTwoSessions(t *testing.T) {
	h := newHub(t, "ann", "bob")
	h.enter(1, "ann", joinText("den", "Ann"))
	h.enter(2, "bob", "<enable/>", joinText("den", "Bob"))
	h.cut(2)
	h.enter(3, "bob")
	was := h.at(3)
	h.feed(1, talkText("den", "m", "x"), by("1", talkTold("den", 3, "ann", "m", "x")))
	if x := h.lost("bob"); len(x.Told) != 2 || x.Told[1] != talkTold("den", 3, "ann", "m", "x") || len(x.Line.Queue) != 2 || !sameSess(h.at(3), was) {
		t.Error(h.s.Sess)
	}
	// The new one is not main: who loses it is still in the room.
	for _, end := range []func(h *hub){
		func(h *hub) { h.cut(3) },
		func(h *hub) { h.feed(3, streamEnded, by("3", streamEnded)) },
		func(h *hub) { h.feed(3, "x", by("3", "<broken code='2'/>", streamEnded)) },
	} {
		x := h.fork()
		end(x)
		x.expectSess("1ann -1+bob")
		x.expectLog(talkTold("den", 3, "ann", "m", "x"))
	}
	// Put out, the one that waits is told.
	x := h.fork()
	x.feed(1, roleText("den", "r", "Bob", "none"), by("1", leaveTold("den", 4, "bob", 1)))
	if y := x.lost("bob"); y.Told[2] != leaveTold("den", 4, "bob", 1) {
		t.Error(y)
	}
	// When the one that waits has waited too long, the new one is told.
	for range 3 {
		h.tick()
	}
	h.tick(by("1", leaveTold("den", 4, "bob", 3)), by("3", leaveTold("den", 4, "bob", 3)))
	h.expectSess("1ann 3bob")
	h.feed(3, joinText("den", "Bob"), by("1", joinTold("den", 5, "bob", 2)), by("3", joinTold("den", 5, "bob", 2)))
	h.feed(3, "<enable/>", by("3", "<enabled id='bob-1'/>"))
	h.cut(3)
	h.expectSess("1ann -1+bob")
}

// A session stands where it stood, in all that is told, also when it is gone on with.
func TestSessionsAreToldInOrder(t *testing.T) {
	h := newHub(t, "ann", "bob", "cyd")
	h.enter(9, "cyd", "<enable/>", joinText("den", "Cyd"))
	h.enter(1, "ann", joinText("den", "Ann"))
	h.enter(5, "bob", joinText("den", "Bob"))
	text := func(seq int) string { return talkTold("den", seq, "bob", "m", "x") }
	h.feed(5, talkText("den", "m", "x"), by("9+", text(4)), by("1", text(4)), by("5", text(4)))
	h.cut(9)
	h.enter(2, "cyd")
	h.expectSess("-1+cyd 1ann 5bob 2cyd")
	h.feed(2, resumeText(4, "cyd-0"), by("2", "<resumed h='1' id='cyd-0'/>"))
	h.expectSess("2+cyd 1ann 5bob")
	h.feed(5, talkText("den", "m", "x"), by("2+", text(5)), by("1", text(5)), by("5", text(5)))
}

// Without a journal that has it, nobody is told: what is said by one piece of bytes is written one by one.
func TestP48AllThatIsToldIsWritten(t *testing.T) {
	d := newDice()
	seen := 0
	for range 15 {
		p := newPlayer(t, d)
		for range 60 {
			was := p.s
			s, out := impl.ServerFeed(was, p.link(), d.saidBytes())
			log, size := impl.JourRead(s.Journal)
			up := impl.ServerRise(s.Accounts, s.Journal, s.Next)
			if size != len(s.Journal) || !slices.Equal(log, s.Log) || len(up.Log) < len(log) || !slices.Equal(up.Log[:len(log)], log) {
				t.Fatalf("%q is written of %+v, and %+v rises", s.Journal, s.Log, up)
			}
			for _, o := range out {
				tree, code := impl.TreeGet(o.Text)
				if code != impl.XmlFine || tree[0].Name != "entry" {
					continue
				}
				seen++
				if !slices.ContainsFunc(log, func(e impl.Entry) bool { return impl.TellEntry(e) == o.Text }) {
					t.Fatalf("%q is told, but not written", o.Text)
				}
			}
			p.step(s, out)
			p.stir()
		}
	}
	if seen < 180 {
		t.Error(seen)
	}
}
