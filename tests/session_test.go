package tests

import (
	"fmt"
	"regexp"
	"slices"
	"strings"
	"testing"

	"loop.example/hubbub/impl"
)

func TestSessionNumbers(t *testing.T) {
	if impl.SessionMax != 60 {
		t.Error(impl.SessionMax)
	}
}

// lineForms are how lines look that ask for an event, by its kind.
var lineForms = map[int]*regexp.Regexp{
	impl.WorldOpen: regexp.MustCompile(`^open (?<user>[^ ]*)$`),
	impl.WorldBack: regexp.MustCompile(`^back (?<user>[^ ]*)$`),
	impl.WorldAck:  regexp.MustCompile(`^ack (?<user>[^ ]*)$`),
	impl.WorldSay:  regexp.MustCompile(`(?s)^say (?<user>[^ ]*) (?<text>.*)$`),
	impl.WorldHear: regexp.MustCompile(`^hear (?<user>[^ ]*) (?<num>0|[1-9][0-9]{0,8})$`),
	impl.WorldCut:  regexp.MustCompile(`^cut (?<user>[^ ]*) (?<num>0|[1-9][0-9]{0,8})$`),
	impl.WorldTick: regexp.MustCompile(`^tick$`),
	impl.WorldFall: regexp.MustCompile(`(?s)^fall (?<user>[^ ]*) (?<num>0|[1-9][0-9]{0,8})( (?<text>.*))?$`),
}

// What else can be asked.
var (
	roomForm   = regexp.MustCompile(`^room ([a-z0-9._-]{1,8})$`)
	clientForm = regexp.MustCompile(`^(got|air) ([^ ]*)$`)
)

// placeOf is the client of a user, -1 if there is none.
func placeOf(w impl.World, user string) int {
	return slices.IndexFunc(w.Server.Accounts, func(a impl.Account) bool { return a.User == user })
}

// eventBy is the event for which a line asks, and whether it asks for one.
func eventBy(w impl.World, line string) (impl.Event, bool) {
	for kind, form := range lineForms {
		m := form.FindStringSubmatch(line)
		if m == nil {
			continue
		}
		e := impl.Event{Kind: kind}
		for i, name := range form.SubexpNames() {
			switch name {
			case "user":
				e.At = placeOf(w, m[i])
			case "num":
				fmt.Sscan(m[i], &e.Num)
			case "text":
				e.Text = m[i]
			}
		}
		return e, e.At >= 0
	}
	return impl.Event{}, false
}

// answerTo is what is to be answered to a line, and the world behind it.
func answerTo(w impl.World, line string) (impl.World, string) {
	if e, ok := eventBy(w, line); ok {
		w, done := impl.WorldDo(w, e)
		return w, map[bool]string{true: "ok", false: "no"}[done]
	}
	if line == "safe" {
		return w, map[bool]string{true: "yes", false: "no"}[impl.WorldSafe(w)]
	}
	if m := roomForm.FindStringSubmatch(line); m != nil {
		return w, roomWritten(impl.RoomOf(w.Server.Journal, m[1]))
	}
	m := clientForm.FindStringSubmatch(line)
	if m == nil || placeOf(w, m[2]) < 0 {
		return w, "what"
	}
	c := w.Clients[placeOf(w, m[2])]
	list := c.Got
	if m[1] == "air" {
		list = nil
		for _, o := range c.Air {
			list = append(list, o.Text)
		}
	}
	text := fmt.Sprintf("%s %d", m[1], len(list))
	for _, more := range list {
		text += "\n" + more
	}
	return w, text
}

// answersTo is what is to be answered to each line, the first of which names accounts that are ok.
func answersTo(lines []string) []string {
	var list []impl.Account
	for _, part := range strings.Split(lines[0], " ")[1:] {
		user, pass, _ := strings.Cut(part, ":")
		list = append(list, impl.Account{User: user, Pass: pass})
	}
	w, out, text := impl.WorldNew(list), []string{"ok"}, ""
	for _, line := range lines[1:min(len(lines), 60)] {
		w, text = answerTo(w, line)
		out = append(out, text)
	}
	return out
}

// joined is answers, each with a newline behind it.
func joined(answers ...string) string {
	return strings.Join(append(slices.Clone(answers), ""), "\n")
}

// checkSession says what must be answered to lines.
func checkSession(t *testing.T, lines []string, want ...string) {
	t.Helper()
	was := slices.Clone(lines)
	if got := impl.Session(lines); got != joined(want...) {
		t.Fatalf("to\n%s\nthe answers are\n%snot\n%s", strings.Join(lines, "\n"), got, joined(want...))
	}
	if !slices.Equal(lines, was) {
		t.Fatalf("lines are changed to %q", lines)
	}
}

// checkLast says what must be answered to the last of some lines.
func checkLast(t *testing.T, lines []string, want string) {
	t.Helper()
	ahead, all := impl.Session(lines[:len(lines)-1]), impl.Session(lines)
	if all != ahead+want+"\n" {
		t.Fatalf("to the last of\n%s\nthe answer is %q, not %q", strings.Join(lines, "\n"), strings.TrimPrefix(all, ahead), want)
	}
}

// with is lines with others behind them.
func with(lines []string, more ...string) []string {
	return slices.Concat(lines, more)
}

// denLines are lines by which ann and bob are in den, and all that was told has come.
var denLines = []string{
	"users ann:pann bob:pbob",
	"open ann", "hear ann 9", "say ann " + joinText("den", "Ann"), "hear ann 9",
	"open bob", "hear bob 9", "say bob " + joinText("den", "Bob"), "hear bob 9", "hear ann 9",
}

// exampleLines are the lines of the document, exampleAnswers the answer to each.
var exampleLines = []string{
	"users ann:pa bob:pb",
	"open ann",
	"hear ann 9",
	"say ann <presence to='den@rooms.local/Ann'/>",
	"open bob",
	"hear bob 9",
	"say bob <presence to='den@rooms.local/Bob'/>",
	"say ann <message id='m1' to='den@rooms.local' type='groupchat'><body>hi &amp; hello</body></message>",
	"hear bob 1",
	"cut bob 0",
	"say ann <message id='m2' to='den@rooms.local' type='groupchat'><body>ho</body></message>",
	"back bob",
	"air bob",
	"hear bob 9",
	"got bob",
	"ack bob",
	"say bob <iq id='q' to='den@rooms.local' type='get'><page max='1'/></iq>",
	"hear bob 1",
	"say ann <iq id='r' to='den@rooms.local' type='set'><rank rank='outcast' user='bob'/></iq>",
	"room den",
	"tick",
	"fall ann 20 <message id='m3' to='den@rooms.local' type='groupchat'><body>lost</body></message>",
	"room den",
	"safe",
	"say ann x",
	"what",
}

var exampleAnswers = []string{
	"ok", "ok", "ok", "ok", "ok", "ok", "ok", "ok", "ok", "ok", "ok", "ok",
	"air 5\n<stream from='rooms.local'>\n<success/>\n<resumed h='1' id='bob-1'/>\n" +
		"<entry id='m1' kind='talk' nick='Ann' room='den' seq='3' user='ann'>hi &amp; hello</entry>\n" +
		"<entry id='m2' kind='talk' nick='Ann' room='den' seq='4' user='ann'>ho</entry>",
	"ok",
	"got 3\n<entry kind='join' nick='Bob' num='2' room='den' seq='2' user='bob'/>\n" +
		"<entry id='m1' kind='talk' nick='Ann' room='den' seq='3' user='ann'>hi &amp; hello</entry>\n" +
		"<entry id='m2' kind='talk' nick='Ann' room='den' seq='4' user='ann'>ho</entry>",
	"ok", "ok", "ok", "ok",
	"den|7||1|ann|Ann|3|ann|4|bob|0",
	"ok", "ok",
	"den|8||0|ann|4|bob|0",
	"yes", "no", "what",
}

func TestTheSessionOfTheDocument(t *testing.T) {
	for n := 1; n <= len(exampleLines); n++ {
		checkSession(t, exampleLines[:n], exampleAnswers[:n]...)
	}
	if want := answersTo(exampleLines); !slices.Equal(want, exampleAnswers) {
		t.Fatalf("these tests would answer %q", want)
	}
}

func TestASessionWithoutLines(t *testing.T) {
	for _, lines := range [][]string{nil, {}, make([]string, 0, 5)} {
		checkSession(t, lines, []string(nil)...)
	}
}

func TestAFirstLineOfAccounts(t *testing.T) {
	for line, users := range map[string]string{
		"users ann:pa":                          "ann",
		"users ann:pa bob:pb":                   "ann bob",
		"users a:1 b:2 c:3":                     "a b c",
		"users a:1 b:2 c:3 d:4":                 "a b c d",
		"users ann:x ann-x:x ann.:x ann_:x":     "ann ann-x ann. ann_",
		"users -:x .:x 0:x _:x":                 "- . 0 _",
		"users abcdefgh:abcdefghijkl":           "abcdefgh",
		"users ann:p:a":                         "ann",
		"users ann:: bob::::":                   "ann bob",
		"users ann:ann:ann bob:bob:bob":         "ann bob",
		"users ann:~ bob:! cid:'\"<>& dan:&lt;": "ann bob cid dan",
	} {
		checkSession(t, []string{line}, "ok")
		for _, user := range strings.Fields(users) {
			// The word lets the user in.
			lines := []string{line, "open " + user, "hear " + user + " 1", "air " + user}
			checkLast(t, lines, "air 2\n<success/>\n<enabled id='"+user+"-0'/>")
		}
	}
}

func TestAFirstLineThatIsWrong(t *testing.T) {
	for _, line := range []string{
		"", " ", "users", "users ", "users  ", "user ann:pa", "Users ann:pa", "USERS ann:pa", "usersann:pa", "users:ann:pa", "xusers ann:pa",
		" users ann:pa", "users  ann:pa", "users ann:pa ", "users ann:pa  bob:pb", "users ann:pa bob:pb ", "\nusers ann:pa", "users ann:pa\n",
		"users\tann:pa", "users\nann:pa", "users ann:pa\tbob:pb", "users ann:pa\nbob:pb", "users ann:pa,bob:pb\n",
		"users ann", "users ann:", "users :pa", "users :", "users ::", "users ann pa", "users ann: pa", "users ann :pa", "users ann:pa bob", "users ann:pa bob:", "users ann:pa :pb", "users ann=pa",
		"users bob:pb ann:pa", "users ann:pa ann:pb", "users ann:pa ann:pa", "users b:1 ab:1", "users a:1 c:1 b:1", "users a:1 b:2 c:3 d:4 e:5",
		"users Ann:pa", "users ann@x:pa", "users ann/x:pa", "users ann'x:pa", "users é:pa", "users abcdefghi:pa", "users ann:abcdefghijklm",
		"users ann:p\ta", "users ann:p\na", "users ann:p\x7f", "users ann:pé", "users ann:\xff", "users ann:p\x00", "users \xff:pa", "users an\x00:pa",
		"tick", "safe", "room den", "open ann", "what", "ok", "users users", "users users ann:pa",
	} {
		checkSession(t, []string{line}, "wrong")
		// Nothing more is answered, not even to a first line that comes later.
		checkSession(t, []string{line, "users ann:pa", "open ann", "safe", "what", ""}, "wrong")
	}
	checkSession(t, []string{"users ann:pa", "users ann:pa", "users bob:pb", "open bob", "open ann"}, "ok", "what", "what", "what", "ok")
}

func TestSessionMaxLines(t *testing.T) {
	// Lines that cannot be answered count, too.
	for many := 56; many < 66; many++ {
		lines := with([]string{"users ann:pa"}, slices.Repeat([]string{"", "x", "no ann"}, 30)[:many]...)
		lines = with(lines, "open ann", "air ann", "safe")
		want := with([]string{"ok"}, slices.Repeat([]string{"what"}, many)...)
		want = with(want, "ok", "air 3\n<stream from='rooms.local'>\n<success/>\n<enabled id='ann-0'/>", "yes")
		checkSession(t, lines, want[:min(len(want), 60)]...)
	}
	// Exactly SessionMax, and one more: what the last one does is told by an ask at its end alone.
	lines := with(denLines, slices.Repeat([]string{"say ann <r/>"}, 49)...)
	checkLast(t, with(lines, "air ann"), "air 49\n"+strings.TrimSuffix(strings.Repeat("<a h='1'/>\n", 49), "\n"))
	all := impl.Session(with(lines, "safe"))
	for _, line := range []string{"safe", "air ann", "room den", "got bob", "what", "", "say ann <r/>", "fall ann 0"} {
		if got := impl.Session(with(lines, "safe", line)); got != all {
			t.Errorf("with %q as one line more there is %q", line, got)
		}
	}
	// Many more.
	if got := impl.Session(with(lines, slices.Repeat([]string{"safe"}, 1000)...)); got != all {
		t.Error(got)
	}
}

// worldOfLines is the world that lines leave, as the tests read them.
func worldOfLines(lines []string) impl.World {
	w := impl.WorldNew(accountsOf("ann", "bob"))
	for _, line := range lines[1:] {
		w, _ = answerTo(w, line)
	}
	return w
}

// checkMany holds what is answered to lines against what is to be.
func checkMany(t *testing.T, lines []string) []string {
	t.Helper()
	want := answersTo(lines)
	checkSession(t, lines, want...)
	return want
}

// checkWhat says that a line is none that can be answered, and that it changes nothing.
func checkWhat(t *testing.T, lines []string, line string) {
	t.Helper()
	checkLast(t, with(lines, line), "what")
	looks := []string{"room den", "air ann", "air bob", "got ann", "got bob", "safe", "cut ann 1", "back ann", "air ann", "hear ann 9", "air bob", "tick", "got ann"}
	plain, got := impl.Session(with(lines, looks...)), impl.Session(with(with(lines, line), looks...))
	ahead := impl.Session(lines)
	if got != ahead+"what\n"+strings.TrimPrefix(plain, ahead) {
		t.Fatalf("behind %q it is\n%s\nnot\n%s", line, got, plain)
	}
}

func TestEachKindOfLine(t *testing.T) {
	talk := talkText("den", "m", "hi")
	for _, c := range []struct{ line, look, want string }{
		{"say ann " + talk, "air bob", "air 1\n" + talkTold("den", 3, "ann", "m", "hi")},
		{"say bob " + talk, "air ann", "air 1\n" + talkTold("den", 3, "bob", "m", "hi")},
		{"say bob " + leaveText("den"), "room den", "den|4||1|ann|Ann|3|ann|4"},
		{"tick", "room den", "den|3||2|ann|Ann|3|bob|Bob|2|ann|4"},
		{"hear ann 9", "air ann", "air 0"},
		{"ack ann", "air ann", "air 0"},
		{"cut ann 0", "say ann " + talk, "no"},
		{"fall bob 0", "room den", "den|5||0|ann|4"},
		{"fall bob 9 " + talk, "room den", "den|5||0|ann|4"},
		{"fall bob 999 " + talk, "room den", "den|6||0|ann|4"},
		{"fall bob 999999999 " + talk, "room den", "den|6||0|ann|4"},
		{"fall bob 999 ", "room den", "den|5||0|ann|4"},
		{"fall bob 999  " + talk, "room den", "den|6||0|ann|4"},
	} {
		checkMany(t, with(denLines, c.line, c.look))
		checkLast(t, with(denLines, c.line), "ok")
		checkLast(t, with(denLines, c.line, c.look), c.want)
	}
	away := with(denLines, "cut bob 0", "say ann "+talk)
	told := talkTold("den", 3, "ann", "m", "hi")
	checkLast(t, with(away, "back bob", "air bob"), "air 4\n"+streamBegun+"\n<success/>\n<resumed h='1' id='bob-1'/>\n"+told)
	checkLast(t, with(away, "open bob", "air bob"), "air 4\n"+streamBegun+"\n<success/>\n"+leaveTold("den", 4, "bob", 3)+"\n<enabled id='bob-2'/>")
	checkLast(t, with(away, "tick", "tick", "tick", "room den"), "den|4||2|ann|Ann|3|bob|Bob|2|ann|4")
	checkLast(t, with(away, "tick", "tick", "tick", "tick", "room den"), "den|5||1|ann|Ann|3|ann|4")
}

func TestHowManyCome(t *testing.T) {
	lines := with(denLines, "say ann "+strings.Repeat("<r/>", 12))
	for num, left := range map[string]int{"0": 12, "1": 11, "7": 5, "11": 1, "12": 0, "13": 0, "100": 0, "999999999": 0} {
		want := fmt.Sprintf("air %d%s", left, strings.Repeat("\n<a h='1'/>", left))
		checkLast(t, with(lines, "hear ann "+num), "ok")
		checkLast(t, with(lines, "hear ann "+num, "air ann"), want)
	}
	talks := with(denLines, "say bob "+talkText("den", "m1", "a"), "say bob "+talkText("den", "m2", "b"), "say bob "+talkText("den", "m3", "c"))
	for num, came := range map[string]int{"0": 0, "1": 1, "2": 2, "3": 3, "4": 3, "10": 3, "999999999": 3} {
		got := fmt.Sprintf("got %d\n%s\n%s", 2+came, joinTold("den", 1, "ann", 3), joinTold("den", 2, "bob", 2))
		for i := range came {
			got += "\n" + talkTold("den", 3+i, "bob", fmt.Sprintf("m%d", 1+i), string("abc"[i]))
		}
		for _, word := range []string{"hear", "cut"} {
			checkLast(t, with(talks, word+" ann "+num), "ok")
			checkLast(t, with(talks, word+" ann "+num, "got ann"), got)
		}
		checkLast(t, with(talks, "cut ann "+num, "hear ann 0"), "no")
	}
}

func TestHowManyBytesAFallLeaves(t *testing.T) {
	talk := talkText("den", "m", "hi")
	record := strings.TrimPrefix(worldOfLines(with(denLines, "say bob "+talk)).Server.Journal, worldOfLines(denLines).Server.Journal)
	if len(record) < 10 || len(record) > 99 {
		t.Fatal(record)
	}
	for n := range len(record) + 3 {
		want := "den|5||0|ann|4"
		if n >= len(record) {
			want = "den|6||0|ann|4"
		}
		checkLast(t, with(denLines, fmt.Sprintf("fall bob %d %s", n, talk), "room den"), want)
		checkLast(t, with(denLines, fmt.Sprintf("fall bob %d", n), "room den"), "den|5||0|ann|4")
	}
}

func TestNumbersThatAreNone(t *testing.T) {
	for _, num := range []string{
		"", "00", "01", "007", "000000000", "0123456789", "1234567890", "9999999999", "0000000001", "99999999999999999999", "18446744073709551616",
		"-1", "-0", "+1", "+0", "1.", "1.0", "1e1", "0x1", "1_0", "a", "1a", "a1", "٣", "\xff", "1\n", "1\t", "\t1", "½", "one", "'1'",
	} {
		for _, word := range []string{"hear", "cut", "fall"} {
			checkWhat(t, denLines, word+" ann "+num)
		}
		checkWhat(t, denLines, "fall ann "+num+" ")
		checkWhat(t, denLines, "fall ann "+num+" "+talkText("den", "m", "hi"))
		checkWhat(t, denLines, "fall ann "+num+" 1")
	}
	for _, num := range []string{"0", "1", "9", "10", "123456789", "999999999", "100000000"} {
		for _, line := range []string{"hear ann ", "cut ann ", "fall ann "} {
			checkLast(t, with(denLines, line+num), "ok")
		}
		checkLast(t, with(denLines, "fall ann "+num+" "), "ok")
	}
}

func TestUsersWithoutAnAccount(t *testing.T) {
	for _, user := range []string{"zed", "", "an", "annn", "ANN", "Ann", "ann:pann", "ann\t", "\tann", "ann\n", "ann@rooms.local", "0", "1", "-1", "*", "\xff", "den", "bo", "ann-0"} {
		for _, line := range []string{"open %s", "back %s", "ack %s", "say %s <r/>", "say %s ", "hear %s 0", "hear %s 9", "cut %s 0", "fall %s 0", "fall %s 0 ", "fall %s 0 x", "got %s", "air %s"} {
			checkWhat(t, denLines, fmt.Sprintf(line, user))
		}
	}
	// Each account can be asked for.
	users := []string{"abcdefgh", "b", "b.", "b0"}
	lines := []string{"users abcdefgh:1 b:2 b.:3 b0:4"}
	for i, user := range users {
		lines = append(lines, "open "+user)
		checkLast(t, with(lines, "air "+user), fmt.Sprintf("air 3\n%s\n<success/>\n<enabled id='%s-%d'/>", streamBegun, user, i))
		checkLast(t, with(lines, "got "+user), "got 0")
	}
}

func TestTextsThatAreSaid(t *testing.T) {
	// All behind the blank is said, byte for byte.
	for _, text := range []string{"", " ", "   ", "\n", "\t \n ", " <r/>", "<r/> ", " <r/>\n", "\n<r/>", "<r/>\n\n<r/>", "<r/> <r/>", "x", " x", "<", "<r", "</stream>", "</stream> ", "</stream >x", "<r />", "< r/>", "\xff", "\x00", "é", "&amp;"} {
		want := checkMany(t, with(denLines, "say ann "+text, "air ann", "got ann", "say ann <r/>", "air ann", "room den"))
		if want[len(denLines)] != "ok" {
			t.Fatalf("%q cannot be said", text)
		}
	}
	for text, air := range map[string]string{
		"":                             "air 0",
		"   ":                          "air 0",
		" \n\t<r/>":                    "air 1\n<a h='1'/>",
		"<r/> \n ":                     "air 1\n<a h='1'/>",
		"x":                            "air 2\n<broken code='2'/>\n</stream>",
		" x ":                          "air 2\n<broken code='2'/>\n</stream>",
		"</stream>":                    "air 1\n</stream>",
		talkText("den", "m", " "):      "air 1\n" + talkTold("den", 3, "ann", "m", " "),
		talkText("den", "m", " a  b "): "air 1\n" + talkTold("den", 3, "ann", "m", " a  b "),
		talkText("den", "m", "a\nb"):   "air 1\n" + talkTold("den", 3, "ann", "m", "a&#10;b"),
		talkText("den", "m", "\n\t"):   "air 1\n" + talkTold("den", 3, "ann", "m", "&#10;&#9;"),
	} {
		checkLast(t, with(denLines, "say ann "+text, "air ann"), air)
	}
	// Bytes come in pieces, also ones that begin or end with blanks, or are empty.
	talk := talkText("den", "m", " a b ")
	for at := range len(talk) + 1 {
		lines := with(denLines, "say ann "+talk[:at], "say ann ", "say ann "+talk[at:], "hear bob 9", "got bob")
		checkLast(t, lines, fmt.Sprintf("got 2\n%s\n%s", joinTold("den", 2, "bob", 2), talkTold("den", 3, "ann", "m", " a b ")))
	}
	// A line of as many bytes as may come at once, and of one more.
	for many, want := range map[int]string{impl.FeedMax - 1: "ok", impl.FeedMax: "ok", impl.FeedMax + 1: "no"} {
		checkLast(t, with(denLines, "say ann "+strings.Repeat(" ", many)), want)
		checkLast(t, with(denLines, "fall ann 0 "+strings.Repeat(" ", many)), want)
	}
	for _, line := range []string{"say ann", "say", "say ", "say  ann <r/>", "sayann <r/>", "say\tann <r/>", "say ann\t<r/>", "say ann\n<r/>", " say ann <r/>", "Say ann <r/>"} {
		checkWhat(t, denLines, line)
	}
}

func TestAFallWithATextAndWithout(t *testing.T) {
	talk := talkText("den", "m", "hi")
	for line, room := range map[string]string{
		"fall ann 999":                         "den|5||0|ann|4",
		"fall ann 999 ":                        "den|5||0|ann|4",
		"fall ann 999  ":                       "den|5||0|ann|4",
		"fall ann 999 x":                       "den|5||0|ann|4",
		"fall ann 999 " + talk:                 "den|6||0|ann|4",
		"fall ann 999  \n" + talk + " ":        "den|6||0|ann|4",
		"fall ann 0 " + talk:                   "den|5||0|ann|4",
		"fall ann 999 " + talk + talk:          "den|7||0|ann|4",
		"fall ann 999 " + talk[:len(talk)-1]:   "den|5||0|ann|4",
		"fall bob 999 " + leaveText("den"):     "den|5||0|ann|4",
		"fall bob 0 </stream>":                 "den|5||0|ann|4",
		"fall ann 999 0":                       "den|5||0|ann|4",
		"fall ann 0 999 " + talk:               "den|5||0|ann|4",
		"fall ann 999 " + talk[:20] + "\n":     "den|5||0|ann|4",
		"fall ann 999 " + talk + "</stream>":   "den|6||0|ann|4",
		"fall ann 999 " + talk + " fall ann 0": "den|6||0|ann|4",
	} {
		lines := with(denLines, line)
		checkMany(t, with(lines, "room den", "air ann", "air bob", "back ann", "air ann", "got ann", "safe"))
		checkLast(t, lines, "ok")
		checkLast(t, with(lines, "room den"), room)
		// Nobody has a link behind it.
		checkLast(t, with(lines, "hear ann 0"), "no")
		checkLast(t, with(lines, "say bob "), "no")
	}
	// What was begun ahead of a fall is said to its end by its text.
	lines := with(denLines, "say ann "+talk[:30], "fall ann 999 "+talk[30:], "room den")
	checkLast(t, lines, "den|6||0|ann|4")
	// A fall without links, and of a client that has none.
	checkLast(t, []string{"users ann:pa", "fall ann 0"}, "ok")
	checkLast(t, []string{"users ann:pa", "fall ann 5 " + talk, "room den"}, "den|0||0")
	checkLast(t, with(denLines, "cut bob 0", "fall bob 999 "+talk, "room den"), "den|5||0|ann|4")
	// The keys go on behind it.
	checkLast(t, with(denLines, "fall bob 0", "open bob", "hear bob 2", "air bob"), "air 1\n<enabled id='bob-2'/>")
	for _, line := range []string{"fall", "fall ", "fall ann", "fall ann ", "fall ann  ", "fall  ann 1", "fall ann  1", "fall ann x", "fall ann " + talk, "fall 1 ann", "fall 1", "fallann 1", "falls ann 1", "fall ann 1\t" + talk, "fall ann 1\n", "fall ann 1\n" + talk, "fall ann 1<r/>"} {
		checkWhat(t, denLines, line)
	}
}

func TestWhatCannotBe(t *testing.T) {
	away := with(denLines, "cut bob 9")
	gone := with(denLines, "say bob </stream>")
	for _, c := range []struct {
		lines []string
		line  string
		want  string
	}{
		{denLines, "open ann", "no"},
		{denLines, "back ann", "no"},
		{denLines, "open bob", "no"},
		{away, "say bob <r/>", "no"},
		{away, "say bob ", "no"},
		{away, "ack bob", "no"},
		{away, "hear bob 0", "no"},
		{away, "hear bob 1", "no"},
		{away, "cut bob 0", "no"},
		{away, "say ann ", "ok"},
		{away, "ack ann", "ok"},
		{away, "open bob", "ok"},
		{away, "back bob", "ok"},
		{gone, "say bob <r/>", "no"},
		{gone, "ack bob", "no"},
		{gone, "open bob", "no"},
		{gone, "hear bob 0", "ok"},
		{gone, "cut bob 0", "ok"},
		{[]string{"users ann:pa"}, "say ann ", "no"},
		{[]string{"users ann:pa"}, "ack ann", "no"},
		{[]string{"users ann:pa"}, "hear ann 0", "no"},
		{[]string{"users ann:pa"}, "cut ann 0", "no"},
		{[]string{"users ann:pa"}, "open ann", "ok"},
		{[]string{"users ann:pa"}, "back ann", "ok"},
		{[]string{"users ann:pa"}, "tick", "ok"},
		{[]string{"users ann:pa"}, "fall ann 0", "ok"},
		{[]string{"users ann:pa", "open ann"}, "hear ann 0", "ok"},
	} {
		checkLast(t, with(c.lines, c.line), c.want)
		checkMany(t, with(c.lines, c.line, "air ann", "got ann", "room den", "tick", "safe"))
	}
	// What cannot be leaves all as it was.
	for _, line := range []string{"say bob <r/>", "ack bob", "hear bob 1", "cut bob 0", "open ann", "back ann", "say ann " + strings.Repeat("<r/>", 501)} {
		looks := []string{"room den", "air ann", "got ann", "air bob", "got bob", "back bob", "air bob", "safe"}
		plain, got := impl.Session(with(away, looks...)), impl.Session(with(with(away, line), looks...))
		ahead := impl.Session(away)
		if got != ahead+"no\n"+strings.TrimPrefix(plain, ahead) {
			t.Errorf("behind %q it is\n%s\nnot\n%s", line, got, plain)
		}
	}
}

func TestSafe(t *testing.T) {
	// A count that a client makes up lets what was told be forgotten too early.
	lines := with(denLines, "cut bob 0", "back bob", "hear bob 9", "say ann "+talkText("den", "m", "hi"))
	checkLast(t, with(lines, "safe"), "yes")
	checkLast(t, with(lines, "cut bob 0", "safe"), "yes")
	checkLast(t, with(lines, "say bob <a h='2'/>", "safe"), "yes")
	checkLast(t, with(lines, "say bob <a h='2'/>", "cut bob 0", "safe"), "no")
	checkLast(t, with(lines, "say bob <a h='2'/>", "cut bob 0", "safe", "back bob", "safe"), "no")
	checkLast(t, with(lines, "say bob <a h='2'/>", "cut bob 1", "safe"), "yes")
	checkLast(t, []string{"users ann:pa", "safe"}, "yes")
	// So does `ack` of a client that awaits its key: the count is one of its earlier session, by what the document says of WorldAck.
	join := "say ann " + joinText("den", "Ann")
	early := []string{"users ann:pa", "open ann", "hear ann 3", join, "hear ann 1", "cut ann 0", "open ann", join, "ack ann", "hear ann 4"}
	checkLast(t, with(early, "safe"), "yes")
	checkLast(t, with(early, "cut ann 0", "safe"), "no")
	late := []string{"users ann:pa", "open ann", "hear ann 3", join, "hear ann 1", "cut ann 0", "open ann", join, "hear ann 4", "ack ann"}
	checkLast(t, with(late, "cut ann 0", "safe"), "yes")
	for _, line := range []string{"safe ", " safe", "safe ann", "safe safe", "safe\n", "Safe", "SAFE", "saf", "safes", "safe\t", "safe  "} {
		checkWhat(t, denLines, line)
	}
}

func TestRoomsOfASession(t *testing.T) {
	for _, name := range []string{"den", "a", "0", "-", ".", "_", "abcdefgh", "d-e.n_0", "rooms", "ann"} {
		checkLast(t, []string{"users ann:pa", "room " + name}, name+"|0||0")
		lines := []string{"users ann:pa", "open ann", "say ann " + joinText(name, "A|\\"), "room " + name}
		checkLast(t, lines, name+`|2||1|ann|A\|\\|3|ann|4`)
	}
	for _, name := range []string{"", " ", "Den", "DEN", "abcdefghi", "den ", " den", "den den", "den\n", "den@rooms.local", "den/x", "d|n", "dén", "\xff", "*", "den\t", "den 0"} {
		checkWhat(t, denLines, "room "+name)
	}
	for _, line := range []string{"room", "rooms den", "roomden", "room\tden", "Room den", " room den", "room  den"} {
		checkWhat(t, denLines, line)
	}
	set := func(what string) string { return "say ann " + what }
	lines := with(denLines,
		set(subjectText("den", "s", "a|b &amp; c\\\nd")),
		set(roleText("den", "r", "Bob", "visitor")),
		set(rankText("den", "q", "cid", "member")),
		set(joinText("hall", "Ann")),
	)
	checkLast(t, with(lines, "room den"), "den|6|a\\|b & c\\\\\nd|2|ann|Ann|3|bob|Bob|1|ann|4|cid|2")
	checkLast(t, with(lines, "room hall"), "hall|2||1|ann|Ann|3|ann|4")
	checkLast(t, with(lines, "room cave"), "cave|0||0")
	checkLast(t, with(lines, "fall ann 0", "room den"), "den|8|a\\|b & c\\\\\nd|0|ann|4|cid|2")
	checkLast(t, with(lines, "fall ann 0", "room hall"), "hall|3||0|ann|4")
}

func TestGotAndAir(t *testing.T) {
	begun := []string{"users ann:pann bob:pbob"}
	checkLast(t, with(begun, "got ann"), "got 0")
	checkLast(t, with(begun, "air ann"), "air 0")
	checkLast(t, with(begun, "open ann", "got ann"), "got 0")
	checkLast(t, with(begun, "open ann", "air bob"), "air 0")
	checkLast(t, with(begun, "open ann", "air ann"), "air 3\n"+streamBegun+"\n<success/>\n<enabled id='ann-0'/>")
	checkLast(t, with(begun, "open ann", "hear ann 1", "air ann"), "air 2\n<success/>\n<enabled id='ann-0'/>")
	checkLast(t, with(begun, "open ann", "hear ann 2", "air ann"), "air 1\n<enabled id='ann-0'/>")
	checkLast(t, with(begun, "open ann", "hear ann 3", "air ann"), "air 0")
	// What has no count is not kept when it came.
	checkLast(t, with(begun, "open ann", "hear ann 9", "say ann <r/>", "hear ann 9", "got ann"), "got 0")
	ann, bob := joinTold("den", 1, "ann", 3), joinTold("den", 2, "bob", 2)
	checkLast(t, with(denLines, "got ann"), "got 2\n"+ann+"\n"+bob)
	checkLast(t, with(denLines, "got bob"), "got 1\n"+bob)
	talk := "say ann " + talkText("den", "m", "a\nb\n")
	told := talkTold("den", 3, "ann", "m", "a&#10;b&#10;")
	checkLast(t, with(denLines, talk, "air bob"), "air 1\n"+told)
	checkLast(t, with(denLines, talk, "hear bob 1", "air bob"), "air 0")
	checkLast(t, with(denLines, talk, "hear bob 1", "got bob"), "got 2\n"+bob+"\n"+told)
	checkLast(t, with(denLines, talk, "cut bob 0", "air bob"), "air 0")
	checkLast(t, with(denLines, talk, "cut bob 0", "got bob"), "got 1\n"+bob)
	// Counted and not, in the order in which they went out.
	mixed := with(denLines, "say bob <r/>"+talkText("den", "x", "y")+"<r/>", "air bob")
	checkLast(t, mixed, "air 3\n<a h='1'/>\n"+talkTold("den", 3, "bob", "x", "y")+"\n<a h='2'/>")
	for _, word := range []string{"got", "air"} {
		for _, line := range []string{"%s", "%s ", "%s  ann", " %s ann", "%s ann ", "%s ann bob", "%s ann 1", "%s\tann", "%sann", "%ss ann", "%s ann\n"} {
			checkWhat(t, denLines, fmt.Sprintf(line, word))
		}
		checkWhat(t, denLines, strings.ToUpper(word)+" ann")
	}
}

func TestLinesThatAreNone(t *testing.T) {
	for _, line := range []string{
		"", " ", "  ", "\n", "\t", "what", "ok", "no", "yes", "users ann:pann", "users", "ann", "x", "\xff", "\x00", "open\x00ann",
		"tick ", " tick", "tick ann", "tick 0", "tick 1", "ticks", "Tick", "tick\n", "tic", "tick  ",
		"open", "open ", "open  ann", " open bob", "open bob ", "open bob bob", "open bob 0", "open\tbob", "openbob", "opens bob", "Open bob", "open bob\n",
		"back", "back ", "back  bob", "back bob ", "back bob 0", "backs bob",
		"ack", "ack ", "ack  bob", "ack bob ", "ack bob 1", "acks bob", "a bob",
		"hear", "hear ", "hear ann", "hear ann ", "hear ann  1", "hear  ann 1", "hear ann 1 ", "hear ann 1 1", "hear ann 1 x", "hear 1 ann", "hear 1", " hear ann 1", "hears ann 1",
		"cut", "cut ", "cut ann", "cut ann ", "cut ann  1", "cut  ann 1", "cut ann 1 ", "cut ann 1 1", "cut 1 ann", "cut 1", " cut ann 1", "cuts ann 1",
	} {
		checkWhat(t, denLines, line)
		checkWhat(t, with(denLines, "cut bob 0"), line)
	}
	// A line ends nowhere but at its end.
	checkLast(t, with(denLines, "say ann <r/>\nsay ann <r/>", "air ann"), "air 3\n<a h='1'/>\n<broken code='2'/>\n</stream>")
	checkWhat(t, denLines, "tick\ntick")
	checkWhat(t, denLines, "open bob\nopen ann")
}
