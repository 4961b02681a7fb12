package tests

import (
	"regexp"
	"strings"
	"testing"

	"loop.example/hubbub/impl"
)

// The limits are the document's: other tests take them by name.
func TestJidNumbers(t *testing.T) {
	if got := [4]int{impl.UserMax, impl.HostMax, impl.NickMax, impl.JidMax}; got != [4]int{8, 20, 10, 60} || impl.RoomHost != "rooms.local" {
		t.Error(got, impl.RoomHost)
	}
}

var (
	userForm = regexp.MustCompile(`^[a-z0-9._-]{1,8}$`)
	hostForm = regexp.MustCompile(`^[a-z0-9]([a-z0-9-]*[a-z0-9])?(\.[a-z0-9]([a-z0-9-]*[a-z0-9])?)*$`)
	nickForm = regexp.MustCompile(`^[^\x00-\x1f\x7f ]([^\x00-\x1f\x7f]*[^\x00-\x1f\x7f ])?$`)
)

func userFits(s string) bool {
	return userForm.MatchString(s)
}

func hostFits(s string) bool {
	return len(s) <= 20 && hostForm.MatchString(s)
}

func nickFits(s string) bool {
	return len(s) <= 10 && impl.TextOk(s) && nickForm.MatchString(s)
}

func jidFits(j impl.Jid) bool {
	return (j.User == "" || userFits(j.User)) && hostFits(j.Host) && (j.Nick == "" || nickFits(j.Nick))
}

var goodUsers = []string{"a", "z", "0", "9", "-", ".", "_", "..", "-.-", "abcdefgh", "a-b.c_d0", "12345678"}

var badUsers = []string{"abcdefghi", "A", "aB", "a b", " a", "a@", "a/b", "é", "a\x00", "a\n", "a+b", "a:b", "\xff", "a`", "a{"}

var goodHosts = []string{"h", "0", "a.b", "a-b", "a--b", "a-b.c-d", "rooms.local", "0.0.0.0", "1-2", "abcdefghijklmnopqrst", "abcdefghi.abcdefghij", "a.b.c.d.e.f.g.h.i.jk"}

var badHosts = []string{"", ".", "a.", ".a", "a..b", "-", "-a", "a-", "a.-b", "a-.b", "a.b-", "-a.b", "abcdefghijklmnopqrstu", "abcdefghij.abcdefghij", "H", "a.B", "a_b", "a b", "é", "a\n", "a@b", "a/b", "a\x00"}

var goodNicks = []string{"a", "Bo", "Bo b", "a/b", "/", "//", "@", "a@b/c", "é", "Z", "0", "'", "<&>\"'", "abcdefghij", "éèêëì", "\U0001f600\U0001f600xx", "\u0080", "\u00a0a\u00a0", "a  b", "\ufffd"}

var badNicks = []string{" ", " a", "a ", "  ", "abcdefghijk", "éèêëìa", "a\x00", "\x01", "a\x1fb", "a\tb", "\n", "a\n", "\x7f", "a\x7fb", "\xff", "a\xc3", "\xed\xa0\x80", "\xef\xbf\xbe", "\ufffe"}

// jids is each of the parts with some of the others.
func jids(users, hosts, nicks []string) []impl.Jid {
	var list []impl.Jid
	for _, u := range users {
		for _, h := range hosts {
			for _, n := range nicks {
				list = append(list, impl.Jid{User: u, Host: h, Nick: n})
			}
		}
	}
	return list
}

func goodJids() []impl.Jid {
	return jids(append([]string{""}, goodUsers...), goodHosts, append([]string{""}, goodNicks...))
}

func badJids() []impl.Jid {
	list := jids(badUsers, []string{"h"}, []string{"", "n"})
	list = append(list, jids([]string{"", "u"}, badHosts, []string{"", "n"})...)
	return append(list, jids([]string{"", "u"}, []string{"h", "rooms.local"}, badNicks)...)
}

func TestJidOk(t *testing.T) {
	for _, j := range goodJids() {
		if !impl.JidOk(j) {
			t.Errorf("JidOk(%q) is false", j)
		}
	}
	for _, j := range badJids() {
		if impl.JidOk(j) || impl.JidPut(j) != "" {
			t.Errorf("JidOk(%q) is %v, JidPut %q", j, impl.JidOk(j), impl.JidPut(j))
		}
	}
}

func TestJidOkOfEachByte(t *testing.T) {
	for c := range 256 {
		s := string([]byte{byte(c)})
		for _, part := range []string{s, "a" + s, s + "a", "a" + s + "a", "a" + s + s + "a", "a." + s, s + ".a"} {
			got := [3]bool{impl.JidOk(impl.Jid{User: part, Host: "h"}), impl.JidOk(impl.Jid{Host: part}), impl.JidOk(impl.Jid{Host: "h", Nick: part})}
			if want := [3]bool{userFits(part), hostFits(part), nickFits(part)}; got != want {
				t.Errorf("%q: user, host, nick are %v", part, got)
			}
		}
	}
}

func TestJidGet(t *testing.T) {
	for _, c := range []struct {
		text string
		jid  impl.Jid
		put  string
	}{
		{"h", impl.Jid{Host: "h"}, "h"},
		{"H", impl.Jid{Host: "h"}, "h"},
		{"u@h", impl.Jid{User: "u", Host: "h"}, "u@h"},
		{"h/n", impl.Jid{Host: "h", Nick: "n"}, "h/n"},
		{"u@h/n", impl.Jid{User: "u", Host: "h", Nick: "n"}, "u@h/n"},
		{"U.Z-_9@A-Z.Y/NicK", impl.Jid{User: "u.z-_9", Host: "a-z.y", Nick: "NicK"}, "u.z-_9@a-z.y/NicK"},
		{"h/a/b", impl.Jid{Host: "h", Nick: "a/b"}, "h/a/b"},
		{"h//", impl.Jid{Host: "h", Nick: "/"}, "h//"},
		{"h/a@b", impl.Jid{Host: "h", Nick: "a@b"}, "h/a@b"},
		{"u@h/@/", impl.Jid{User: "u", Host: "h", Nick: "@/"}, "u@h/@/"},
		{"ABCDEFGH@ABCDEFGHIJKLMNOPQRST/ABCDEFGHIJ", impl.Jid{User: "abcdefgh", Host: "abcdefghijklmnopqrst", Nick: "ABCDEFGHIJ"}, "abcdefgh@abcdefghijklmnopqrst/ABCDEFGHIJ"},
		{"IJKLMNOP@QRSTUVWXYZ/é", impl.Jid{User: "ijklmnop", Host: "qrstuvwxyz", Nick: "é"}, "ijklmnop@qrstuvwxyz/é"},
	} {
		if j, ok := impl.JidGet(c.text); !ok || j != c.jid {
			t.Errorf("JidGet(%q) is %q, %v", c.text, j, ok)
		}
		if got := impl.JidPut(c.jid); got != c.put {
			t.Errorf("JidPut(%q) is %q", c.jid, got)
		}
	}
	for _, s := range []string{
		"", "@", "/", "@h", "u@", "u@/n", "@/n", "/n", "h/", "u@h/", "@h/n", "u@@h", "a@b@c", "u@h@", "@u@h", "a b@h", "u@ h", "u@h ", " h", "h/ n", "h/n ", "h/n\n", "a..b", "-a", "u@a-",
		"abcdefghi@h", "u@abcdefghijklmnopqrstu", "h/abcdefghijk", "é@h", "u@é", "\u212a@h", "u@\u212a", "u@h/\xff", "u\xff@h", "u@h\x00", "[@h", "u@[", "^@h",
		strings.Repeat("a", 60), strings.Repeat("a", 61), "h/" + strings.Repeat("a", 59), "u@h/" + strings.Repeat("é", 40),
	} {
		if j, ok := impl.JidGet(s); ok || j != (impl.Jid{}) {
			t.Errorf("JidGet(%q) is %q, %v", s, j, ok)
		}
	}
}

// jidText is a text that could be an address, more or less.
func jidText(d dice) string {
	pieces := []string{"a", "Z", "0", ".", "-", "_", "@", "/", " ", "é", "\u212a", "\xff", "rooms.local", "Den@", "h/", "\n", "\x7f"}
	return d.pick(pieces, 6)
}

func TestP15AddressIsReadBack(t *testing.T) {
	for _, j := range goodJids() {
		s := impl.JidPut(j)
		if got, ok := impl.JidGet(s); !ok || got != j {
			t.Errorf("JidGet of JidPut, %q, is %q, %v", s, got, ok)
		}
		if s == "" || len(s) > impl.JidMax {
			t.Errorf("JidPut(%q) has %d bytes", j, len(s))
		}
	}
	d := newDice()
	ok := 0
	for range 20000 {
		j := impl.Jid{User: jidText(d), Host: jidText(d), Nick: jidText(d)}
		if d.IntN(2) == 0 {
			j = impl.Jid{User: d.pick(goodUsers, 1), Host: d.pick(append(goodHosts, badHosts...), 1), Nick: d.pick(append(goodNicks, badNicks...), 1)}
		}
		if jidFits(j) != impl.JidOk(j) || (impl.JidPut(j) != "") != impl.JidOk(j) {
			t.Fatalf("JidOk(%q) is %v, JidPut %q", j, impl.JidOk(j), impl.JidPut(j))
		}
		if !impl.JidOk(j) {
			continue
		}
		ok++
		if got, read := impl.JidGet(impl.JidPut(j)); !read || got != j {
			t.Fatalf("JidGet of JidPut of %q is %q, %v", j, got, read)
		}
	}
	if ok < 1000 {
		t.Errorf("only %d were ok", ok)
	}
}

func TestP16WhatIsReadIsAnAddress(t *testing.T) {
	d := newDice()
	good := goodJids()
	read := 0
	for range 40000 {
		s := jidText(d)
		if d.IntN(2) == 0 {
			s = loud(d, impl.JidPut(good[d.IntN(len(good))]))
		}
		j, ok := impl.JidGet(s)
		if !ok {
			continue
		}
		read++
		head, _, _ := strings.Cut(s, "/")
		put := impl.JidPut(j)
		if !impl.JidOk(j) || len(put) != len(s) || put != strings.ToLower(head)+s[len(head):] {
			t.Fatalf("JidGet(%q) is %q, written %q", s, j, put)
		}
		if again, ok := impl.JidGet(put); !ok || again != j {
			t.Fatalf("JidGet(%q) is %q, %v", put, again, ok)
		}
	}
	if read < 1000 {
		t.Errorf("only %d were read", read)
	}
}

// loud makes some letters large.
func loud(d dice, s string) string {
	out := []byte(s)
	for i, c := range out {
		if 'a' <= c && c <= 'z' && d.IntN(2) == 0 {
			out[i] = c - 32
		}
	}
	return string(out)
}

func TestP17HostWithUserAndNickOrWithout(t *testing.T) {
	for _, j := range goodJids() {
		if got := impl.JidPut(impl.Jid{Host: j.Host}); got != j.Host {
			t.Errorf("JidPut of the host %q is %q", j.Host, got)
		}
		bare := impl.JidPut(impl.Jid{User: j.User, Host: j.Host})
		want := bare
		if j.Nick != "" {
			want += "/" + j.Nick
		}
		if got := impl.JidPut(j); got != want {
			t.Errorf("JidPut(%q) is %q", j, got)
		}
	}
}
