package tests

import (
	"fmt"
	"slices"
	"strings"
	"testing"

	"loop.example/hubbub/impl"
)

func cloneWorld(w impl.World) impl.World {
	w.Server, w.Clients = cloneServer(w.Server), slices.Clone(w.Clients)
	for i := range w.Clients {
		w.Clients[i].Air, w.Clients[i].Got = slices.Clone(w.Clients[i].Air), slices.Clone(w.Clients[i].Got)
	}
	return w
}

func sameClient(a, b impl.Client) bool {
	return a.Link == b.Link && slices.Equal(a.Air, b.Air) && a.Count == b.Count && slices.Equal(a.Got, b.Got) && a.Key == b.Key
}

func sameWorld(a, b impl.World) bool {
	return sameServer(a.Server, b.Server) && slices.EqualFunc(a.Clients, b.Clients, sameClient) && a.Links == b.Links
}

func isNoWorld(w impl.World) bool {
	return sameWorld(w, impl.World{})
}

// hasSess says whether a session has a link.
func hasSess(w impl.World, link int) bool {
	return link != -1 && slices.ContainsFunc(w.Server.Sess, func(x impl.Sess) bool { return x.Link == link })
}

// isKey says whether a text is a key of a user.
func isKey(key, user string) bool {
	num, ok := strings.CutPrefix(key, user+"-")
	if !ok || num == "" || len(num) > 9 || num != "0" && num[0] == '0' {
		return false
	}
	return strings.Trim(num, "0123456789") == ""
}

// cameTo is a client to which the first of what is under way came.
func cameTo(c impl.Client) impl.Client {
	o := c.Air[0]
	c.Air = c.Air[1:]
	if o.Count {
		c.Count = (c.Count + 1) % 256
		c.Got = append(slices.Clone(c.Got), o.Text)
	}
	if tree, code := impl.TreeGet(o.Text); code == impl.XmlFine && tree[0].Name == "enabled" {
		for _, a := range tree[0].Attrs {
			if a.Name == "id" && a.Text != "" {
				c.Key, c.Count, c.Got = a.Text, 0, nil
			}
		}
	}
	return c
}

// mayBe says whether an event of any kind may be in a world.
func mayBe(w impl.World, e impl.Event) bool {
	told := slices.ContainsFunc(w.Server.Sess, func(x impl.Sess) bool { return len(x.Told) > 400 })
	return e.At >= 0 && e.At < len(w.Clients) && len(e.Text) <= 2000 && !told && w.Server.Next < 9899
}

// worldBehind is what a world is to be behind an event, made of what a server does, and whether it can be.
func worldBehind(was impl.World, e impl.Event) (impl.World, bool) {
	w, out := cloneWorld(was), []impl.Out(nil)
	if !mayBe(w, e) {
		return was, false
	}
	c, s := &w.Clients[e.At], &w.Server
	link, can := c.Link, false
	switch e.Kind {
	case impl.WorldOpen, impl.WorldBack:
		if can = link == -1 && w.Links <= 99 && len(s.Sess) < 6; !can {
			break
		}
		a, more := s.Accounts[e.At], "<enable/>"
		if e.Kind == impl.WorldBack && c.Key != "" {
			more = resumeText(c.Count, c.Key)
		}
		c.Link, w.Links = w.Links, w.Links+1
		*s, _ = impl.ServerOpen(*s, c.Link)
		*s, out = impl.ServerFeed(*s, c.Link, fmt.Sprintf("<stream><auth pass='%s' user='%s'/>%s", a.Pass, a.User, more))
	case impl.WorldSay, impl.WorldAck:
		text := e.Text
		if e.Kind == impl.WorldAck {
			text = fmt.Sprintf("<a h='%d'/>", c.Count)
		}
		if can = hasSess(w, link); can {
			*s, out = impl.ServerFeed(*s, link, text)
		}
	case impl.WorldHear, impl.WorldCut:
		if can = link != -1 && e.Num >= 0; !can {
			break
		}
		for n := 0; n < e.Num && len(c.Air) > 0; n++ {
			*c = cameTo(*c)
		}
		if e.Kind == impl.WorldCut {
			c.Air, c.Link = nil, -1
			*s, out = impl.ServerCut(*s, link)
		}
	case impl.WorldTick:
		can = true
		*s, out = impl.ServerTick(*s)
	case impl.WorldFall:
		if can = e.Num >= 0; can {
			w = fallen(w, e)
		}
	}
	for _, o := range out {
		for i := range w.Clients {
			if x := &w.Clients[i]; x.Link == o.Link {
				x.Air = append(x.Air, o)
			}
		}
	}
	for i, c := range w.Clients {
		can = can && len(c.Air) <= 1000 && len(c.Got) <= 1000 && (c.Key == "" || isKey(c.Key, s.Accounts[i].User))
	}
	if !can {
		return was, false
	}
	return w, true
}

// fallen is a world whose server fell, and is up again.
func fallen(w impl.World, e impl.Event) impl.World {
	j, next := w.Server.Journal, w.Server.Next
	if link := w.Clients[e.At].Link; hasSess(w, link) {
		s, _ := impl.ServerFeed(w.Server, link, e.Text)
		more := s.Journal[len(j):]
		j, next = j+more[:min(e.Num, len(more))], s.Next
	}
	w.Server = impl.ServerRise(w.Server.Accounts, j, next)
	for i := range w.Clients {
		w.Clients[i].Link, w.Clients[i].Air = -1, nil
	}
	return w
}

// scene is a world in whose events all that holds of each is looked at.
type scene struct {
	*testing.T
	w impl.World
}

func newScene(t *testing.T, users ...string) *scene {
	return &scene{t, impl.WorldNew(accountsOf(users...))}
}

// fork is a scene with the same world, for events that do not happen in another one.
func (s *scene) fork() *scene {
	return &scene{s.T, cloneWorld(s.w)}
}

// try lets an event happen, if it can, and says whether it did.
func (s *scene) try(e impl.Event) bool {
	s.Helper()
	was := cloneWorld(s.w)
	got, ok := impl.WorldDo(s.w, e)
	want, can := worldBehind(was, e)
	if ok != can || !sameWorld(got, want) {
		s.Fatalf("by %+v, of\n%+v\nit is %v,\n%+v\nnot %v,\n%+v", e, was, ok, got, can, want)
	}
	if !impl.WorldOk(got) || !sameWorld(s.w, was) {
		s.Fatalf("by %+v, of\n%+v\nit is not ok:\n%+v", e, was, got)
	}
	n := len(was.Server.Log)
	if len(got.Server.Log) < n || !slices.Equal(got.Server.Log[:n], was.Server.Log) {
		s.Fatalf("by %+v what happened is not\n%+v\nbut\n%+v", e, was.Server.Log, got.Server.Log)
	}
	s.w = got
	return ok
}

// do lets an event happen that can.
func (s *scene) do(kind, at, num int, text string) {
	s.Helper()
	if e := (impl.Event{Kind: kind, At: at, Num: num, Text: text}); !s.try(e) {
		s.Fatalf("%+v cannot be in %+v", e, s.w)
	}
}

// not lets an event happen that cannot.
func (s *scene) not(kind, at, num int, text string) {
	s.Helper()
	if e := (impl.Event{Kind: kind, At: at, Num: num, Text: text}); s.try(e) {
		s.Fatalf("%+v can be in %+v", e, s.w)
	}
}

func (s *scene) open(at int)             { s.Helper(); s.do(impl.WorldOpen, at, 0, "") }
func (s *scene) back(at int)             { s.Helper(); s.do(impl.WorldBack, at, 0, "") }
func (s *scene) say(at int, text string) { s.Helper(); s.do(impl.WorldSay, at, 0, text) }
func (s *scene) hear(at, num int)        { s.Helper(); s.do(impl.WorldHear, at, num, "") }
func (s *scene) cut(at, num int)         { s.Helper(); s.do(impl.WorldCut, at, num, "") }
func (s *scene) tick()                   { s.Helper(); s.do(impl.WorldTick, 0, 0, "") }
func (s *scene) ack(at int)              { s.Helper(); s.do(impl.WorldAck, at, 0, "") }

// enter lets clients come in, hear that they did, and go to den.
func (s *scene) enter(list ...int) {
	s.Helper()
	for _, at := range list {
		s.open(at)
		s.hear(at, 3)
		s.say(at, joinText("den", nickOf(s.w.Server.Accounts[at].User)))
	}
}

// expectAir says what must be under way to a client: each text, with a plus ahead if it counts.
func (s *scene) expectAir(at int, want ...string) {
	s.Helper()
	var got []string
	for _, o := range s.w.Clients[at].Air {
		if o.Link != s.w.Clients[at].Link {
			s.Fatalf("%+v is not of the link %d", o, s.w.Clients[at].Link)
		}
		got = append(got, strings.Repeat("+", map[bool]int{true: 1}[o.Count])+o.Text)
	}
	if !slices.Equal(got, want) {
		s.Fatalf("to %d there is under way\n%s\nnot\n%s", at, strings.Join(got, "\n"), strings.Join(want, "\n"))
	}
}

// expectClient says which link and key a client must have, how many came, and what.
func (s *scene) expectClient(at, link int, key string, count int, got ...string) {
	s.Helper()
	c := s.w.Clients[at]
	if c.Link != link || c.Key != key || c.Count != count || !slices.Equal(c.Got, got) {
		s.Fatalf("the client %d is %+v, not %d, %q, %d, %q", at, c, link, key, count, got)
	}
}

func (s *scene) expectSess(want string) {
	s.Helper()
	(&hub{s.T, s.w.Server}).expectSess(want)
}

func (s *scene) expectLog(want ...string) {
	s.Helper()
	(&hub{s.T, s.w.Server}).expectLog(want...)
}

func (s *scene) expectSafe() {
	s.Helper()
	if !impl.WorldSafe(s.w) {
		s.Fatalf("not safe: %+v", s.w)
	}
}
