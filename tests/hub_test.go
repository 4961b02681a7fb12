package tests

import (
	"fmt"
	"slices"
	"strings"
	"testing"

	"loop.example/hubbub/impl"
)

// passOf is the word that lets a user in.
func passOf(user string) string {
	return "p" + user
}

func accountsOf(users ...string) []impl.Account {
	var list []impl.Account
	for _, user := range users {
		list = append(list, impl.Account{User: user, Pass: passOf(user)})
	}
	return list
}

func authText(user string) string {
	return fmt.Sprintf("<auth pass='%s' user='%s'/>", passOf(user), user)
}

func joinText(room, nick string) string {
	return fmt.Sprintf("<presence to='%s@rooms.local/%s'/>", room, nick)
}

func leaveText(room string) string {
	return fmt.Sprintf("<presence to='%s@rooms.local' type='unavailable'/>", room)
}

func talkText(room, id, text string) string {
	return fmt.Sprintf("<message id='%s' to='%s@rooms.local' type='groupchat'><body>%s</body></message>", id, room, text)
}

func subjectText(room, id, text string) string {
	return fmt.Sprintf("<message id='%s' to='%s@rooms.local' type='groupchat'><subject>%s</subject></message>", id, room, text)
}

func roleText(room, id, nick, role string) string {
	return fmt.Sprintf("<iq id='%s' to='%s@rooms.local' type='set'><role nick='%s' role='%s'/></iq>", id, room, nick, role)
}

func rankText(room, id, user, rank string) string {
	return fmt.Sprintf("<iq id='%s' to='%s@rooms.local' type='set'><rank rank='%s' user='%s'/></iq>", id, room, rank, user)
}

// askText asks for a page by the attributes that come behind its name.
func askText(room, id, what string) string {
	return fmt.Sprintf("<iq id='%s' to='%s@rooms.local' type='get'><page %s/></iq>", id, room, what)
}

func resumeText(h int, key string) string {
	return fmt.Sprintf("<resume h='%d' id='%s'/>", h, key)
}

// entryTold is how an entry is to be told.
func entryTold(e impl.Entry) string {
	mark := strings.NewReplacer("&", "&amp;", "<", "&lt;", ">", "&gt;", "\"", "&quot;", "'", "&apos;", "\n", "&#10;", "\t", "&#9;")
	words := []string{"", "join", "leave", "talk", "subject", "role", "rank"}
	num := fmt.Sprint(e.Num)
	if e.Kind == 3 || e.Kind == 4 {
		num = ""
	}
	out := "<entry"
	for _, p := range [][2]string{{"id", e.Id}, {"kind", words[e.Kind]}, {"nick", e.Nick}, {"num", num}, {"ref", e.Ref}, {"room", e.Room}, {"seq", fmt.Sprint(e.Seq)}, {"user", e.User}} {
		if p[1] != "" {
			out += " " + p[0] + "='" + mark.Replace(p[1]) + "'"
		}
	}
	if e.Text == "" {
		return out + "/>"
	}
	return out + ">" + mark.Replace(e.Text) + "</entry>"
}

func joinTold(room string, seq int, user string, role int) string {
	return fmt.Sprintf("<entry kind='join' nick='%s' num='%d' room='%s' seq='%d' user='%s'/>", nickOf(user), role, room, seq, user)
}

func leaveTold(room string, seq int, user string, why int) string {
	return fmt.Sprintf("<entry kind='leave' nick='%s' num='%d' room='%s' seq='%d' user='%s'/>", nickOf(user), why, room, seq, user)
}

func talkTold(room string, seq int, user, id, text string) string {
	return fmt.Sprintf("<entry id='%s' kind='talk' nick='%s' room='%s' seq='%d' user='%s'>%s</entry>", id, nickOf(user), room, seq, user, text)
}

func rankTold(room string, seq int, user string, rank int) string {
	return fmt.Sprintf("<entry kind='rank' num='%d' room='%s' seq='%d' user='%s'/>", rank, room, seq, user)
}

func roleTold(room string, seq int, user string, role int) string {
	return fmt.Sprintf("<entry kind='role' nick='%s' num='%d' room='%s' seq='%d' user='%s'/>", nickOf(user), role, room, seq, user)
}

// nickOf is the nick that a user takes in the tests.
func nickOf(user string) string {
	return strings.ToUpper(user[:1]) + user[1:]
}

const streamBegun, streamEnded = "<stream from='rooms.local'>", "</stream>"

func cloneServer(s impl.Server) impl.Server {
	s.Accounts, s.Log, s.Sess = slices.Clone(s.Accounts), slices.Clone(s.Log), slices.Clone(s.Sess)
	for i := range s.Sess {
		s.Sess[i].Told, s.Sess[i].Line.Queue = slices.Clone(s.Sess[i].Told), slices.Clone(s.Sess[i].Line.Queue)
	}
	return s
}

func sameSess(a, b impl.Sess) bool {
	return a.Link == b.Link && a.User == b.User && a.Stream == b.Stream && a.On == b.On && a.Key == b.Key && sameLine(a.Line, b.Line) && a.Idle == b.Idle && slices.Equal(a.Told, b.Told)
}

func sameServer(a, b impl.Server) bool {
	return slices.Equal(a.Accounts, b.Accounts) && slices.Equal(a.Log, b.Log) && a.Journal == b.Journal && slices.EqualFunc(a.Sess, b.Sess, sameSess) && a.Next == b.Next
}

func isNoServer(s impl.Server) bool {
	return sameServer(s, impl.Server{})
}

// outLines is what goes out, each as its link, a plus if it counts, a blank, and its text.
func outLines(list []impl.Out) []string {
	var lines []string
	for _, o := range list {
		plus := ""
		if o.Count {
			plus = "+"
		}
		lines = append(lines, fmt.Sprintf("%d%s %s", o.Link, plus, o.Text))
	}
	return lines
}

// by is texts that go out by a link, one behind the other: a link is written as in outLines.
func by(link string, texts ...string) []string {
	var lines []string
	for _, text := range texts {
		lines = append(lines, link+" "+text)
	}
	return lines
}

// hub is a server in whose steps all that holds of each is looked at.
type hub struct {
	*testing.T
	s impl.Server
}

func newHub(t *testing.T, users ...string) *hub {
	return &hub{t, impl.ServerNew(accountsOf(users...))}
}

// fork is a hub with the same server, for steps that another one does not take.
func (h *hub) fork() *hub {
	return &hub{h.T, cloneServer(h.s)}
}

// step takes a step that was made of a server, and looks at what holds of all steps.
func (h *hub) step(s impl.Server, list []impl.Out) []impl.Out {
	h.Helper()
	was := h.s
	h.s = s
	if !impl.ServerOk(s) {
		h.Fatalf("not ok: %+v", s)
	}
	if !strings.HasPrefix(s.Journal, was.Journal) || len(s.Log) < len(was.Log) || !slices.Equal(s.Log[:len(was.Log)], was.Log) || journalOf(s.Log[len(was.Log):]...) != s.Journal[len(was.Journal):] {
		h.Fatalf("of %+v, %q, it is %+v, %q", was.Log, was.Journal, s.Log, s.Journal)
	}
	for _, o := range list {
		if !slices.ContainsFunc(was.Sess, func(x impl.Sess) bool { return x.Link == o.Link && o.Link != -1 }) {
			h.Fatalf("%+v goes out, but nobody has that link", o)
		}
		if strings.HasPrefix(o.Text, "<entry") && !isWritten(s.Log, o.Text) {
			h.Fatalf("%+v goes out, but is not written", o)
		}
	}
	return list
}

// isWritten says whether a text tells an entry of a log. What was written last is told most.
func isWritten(log []impl.Entry, text string) bool {
	for _, e := range slices.Backward(log) {
		if entryTold(e) == text {
			return true
		}
	}
	return false
}

func (h *hub) expect(list []impl.Out, want []string) {
	h.Helper()
	if got := outLines(list); !slices.Equal(got, want) {
		h.Fatalf("there goes out\n%s\nnot\n%s", strings.Join(got, "\n"), strings.Join(want, "\n"))
	}
}

func (h *hub) open(links ...int) {
	h.Helper()
	for _, link := range links {
		s, ok := impl.ServerOpen(h.s, link)
		if !ok {
			h.Fatalf("no link %d", link)
		}
		h.step(s, nil)
	}
}

// feed lets bytes come, and says what must go out.
func (h *hub) feed(link int, bytes string, want ...[]string) {
	h.Helper()
	h.expect(h.step(impl.ServerFeed(h.s, link, bytes)), slices.Concat(want...))
}

func (h *hub) cut(link int, want ...[]string) {
	h.Helper()
	h.expect(h.step(impl.ServerCut(h.s, link)), slices.Concat(want...))
}

func (h *hub) tick(want ...[]string) {
	h.Helper()
	h.expect(h.step(impl.ServerTick(h.s)), slices.Concat(want...))
}

// enter opens a link by which a user comes in, and says more, whatever goes out.
func (h *hub) enter(link int, user string, more ...string) {
	h.Helper()
	h.open(link)
	h.step(impl.ServerFeed(h.s, link, "<stream>"+authText(user)))
	for _, text := range more {
		h.step(impl.ServerFeed(h.s, link, text))
	}
	if h.at(link).User != user {
		h.Fatalf("%s is not in by the link %d: %+v", user, link, h.s.Sess)
	}
}

// at is the session of a link.
func (h *hub) at(link int) impl.Sess {
	h.Helper()
	i := slices.IndexFunc(h.s.Sess, func(x impl.Sess) bool { return x.Link == link })
	if i < 0 {
		h.Fatalf("no session has the link %d: %+v", link, h.s.Sess)
	}
	return h.s.Sess[i]
}

// lost is a user's session without a link.
func (h *hub) lost(user string) impl.Sess {
	h.Helper()
	i := slices.IndexFunc(h.s.Sess, func(x impl.Sess) bool { return x.User == user && x.Link == -1 })
	if i < 0 {
		h.Fatalf("%s has no session without a link: %+v", user, h.s.Sess)
	}
	return h.s.Sess[i]
}

// whoAre is who has a session, by link and name.
func (h *hub) whoAre() string {
	var list []string
	for _, x := range h.s.Sess {
		on := ""
		if x.On {
			on = "+"
		}
		list = append(list, fmt.Sprintf("%d%s%s", x.Link, on, x.User))
	}
	return strings.Join(list, " ")
}

func (h *hub) expectSess(want string) {
	h.Helper()
	if got := h.whoAre(); got != want {
		h.Fatalf("there are %q, not %q", got, want)
	}
}

// expectLog says how the last entries must be told.
func (h *hub) expectLog(want ...string) {
	h.Helper()
	var got []string
	for _, e := range h.s.Log[max(0, len(h.s.Log)-len(want)):] {
		got = append(got, entryTold(e))
	}
	if !slices.Equal(got, want) {
		h.Fatalf("last there happened\n%s\nnot\n%s", strings.Join(got, "\n"), strings.Join(want, "\n"))
	}
}

// expectSame says that a server must be as it was.
func (h *hub) expectSame(was impl.Server) {
	h.Helper()
	if !sameServer(h.s, was) {
		h.Fatalf("it is %+v, not %+v", h.s, was)
	}
}
