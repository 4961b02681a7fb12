package tests

import (
	"fmt"
	"slices"
	"strings"
	"testing"

	"loop.example/hubbub/impl"
)

// usersLine is the first line of a session.
func usersLine(list []impl.Account) string {
	line := "users"
	for _, a := range list {
		line += " " + a.User + ":" + a.Pass
	}
	return line
}

// lineFor is a line that asks for an event, or, if there is none for it, one that cannot be answered.
func lineFor(list []impl.Account, e impl.Event) string {
	user := "zed"
	if e.At >= 0 && e.At < len(list) {
		user = list[e.At].User
	}
	words := []string{"none", "open", "back", "say", "hear", "cut", "tick", "fall", "ack"}
	if e.Kind < 0 || e.Kind >= len(words) {
		return "other " + user
	}
	line := words[e.Kind]
	if e.Kind != impl.WorldTick {
		line += " " + user
	}
	if e.Kind == impl.WorldHear || e.Kind == impl.WorldCut || e.Kind == impl.WorldFall {
		line += fmt.Sprint(" ", e.Num)
	}
	if e.Kind == impl.WorldSay || e.Text != "" {
		line += " " + e.Text
	}
	return line
}

// askLine is a line that asks, and changes nothing, be it one that can be answered or not.
func (d dice) askLine(list []impl.Account) string {
	user := list[d.IntN(len(list))].User
	asks := []string{"safe", "room den", "room hall", "room x", "got " + user, "air " + user, "what", "", "room Den", "got zed", "hear " + user, "users a:b", "safe ", "cut " + user + " 01"}
	return asks[d.IntN(len(asks))]
}

// lines are those of a session in which so many things happen; in a fair one they keep to what P75 asks of clients.
func (d dice) lines(t *testing.T, many int, fair bool) []string {
	p := newTroupe(t, d)
	accounts := p.w.Server.Accounts
	lines := []string{usersLine(accounts)}
	for range many {
		e := p.event(fair)
		lines = append(lines, lineFor(accounts, e))
		p.w, _ = impl.WorldDo(p.w, e)
	}
	return lines
}

// withAsks is lines with others between them that ask, and the places of these.
func (d dice) withAsks(lines []string, most int) ([]string, []int) {
	_, last, _ := strings.Cut(lines[0], " ")
	var accounts []impl.Account
	for _, part := range strings.Fields(last) {
		accounts = append(accounts, impl.Account{User: part[:strings.Index(part, ":")]})
	}
	var asks []int
	out := []string{lines[0]}
	for _, line := range lines[1:] {
		for d.IntN(2) == 0 && len(asks) < most {
			asks = append(asks, len(out))
			out = append(out, d.askLine(accounts))
		}
		out = append(out, line)
	}
	return out, asks
}

func TestWhatIsAnsweredIsWhatAWorldDoes(t *testing.T) {
	d := newDice()
	many := map[string]int{}
	for range 150 {
		lines, _ := d.withAsks(d.lines(t, d.IntN(50), d.IntN(2) == 0), 30)
		for i, text := range checkMany(t, lines) {
			word, _, _ := strings.Cut(lines[i], " ")
			answer, _, _ := strings.Cut(text, "\n")
			many[word+" "+answer]++
		}
	}
	for _, both := range []string{"open", "back", "say", "hear", "cut", "ack"} {
		if many[both+" ok"] < 20 || many[both+" no"] < 3 {
			t.Errorf("%s: %d times ok, %d times not", both, many[both+" ok"], many[both+" no"])
		}
	}
	if many["tick ok"] < 50 || many["fall ok"] < 10 || many["safe yes"] < 50 {
		t.Error(many)
	}
}

func TestP74WhatWasToldOfTheFirstLinesIsToldFirst(t *testing.T) {
	d := newDice()
	for range 10 {
		lines, _ := d.withAsks(d.lines(t, 48+d.IntN(12), false), 20)
		answers := answersTo(lines)
		for n := range len(lines) + 1 {
			if got := impl.Session(lines[:n]); got != joined(answers[:min(n, len(answers))]...) {
				t.Fatalf("to the first %d of %q the answers are\n%s\nnot\n%s", n, lines, got, joined(answers[:min(n, len(answers))]...))
			}
		}
		all := impl.Session(lines)
		for len(lines) < 60 {
			lines = append(lines, "x")
			all += "what\n"
		}
		for _, line := range with(d.lines(t, 5, false), "safe", "tick", "room den", "") {
			if got := impl.Session(with(lines[:60], line)); !strings.HasPrefix(got, impl.Session(lines[:60])) || len(got) != len(impl.Session(lines[:60])) {
				t.Fatalf("with %q behind SessionMax lines %q there is\n%s", line, lines, got)
			}
		}
		if got := impl.Session(lines); got != all {
			t.Fatalf("to %q the answers are\n%s\nnot\n%s", lines, got, all)
		}
	}
}

func TestP75AllIsAlwaysSafe(t *testing.T) {
	d := newDice()
	for range 20 {
		lines, _ := d.withAsks(d.lines(t, 40, true), 16)
		for n := 1; n <= min(len(lines), 58); n += 1 + d.IntN(4) {
			if d.IntN(3) == 0 {
				checkLast(t, with(lines[:n], "safe"), "yes")
				continue
			}
			checkLast(t, with(lines[:n], "room den", "safe"), "yes")
		}
		checkLast(t, with(lines[:min(len(lines), 58)], "room den", "safe"), "yes")
		checkLast(t, with(lines[:min(len(lines), 59)], "safe"), "yes")
	}
}

func TestP75WhoAsksChangesNothing(t *testing.T) {
	d := newDice()
	for range 40 {
		plain := d.lines(t, 30, d.IntN(2) == 0)
		asked, asks := d.withAsks(plain, 26)
		want := answersTo(asked)
		checkSession(t, asked, want...)
		// Last place first, so that those ahead stand where they did.
		for _, at := range slices.Backward(asks) {
			want = slices.Delete(want, at, at+1)
		}
		checkSession(t, plain, want...)
	}
}

// scratchedLine is a line with something changed in it.
func (d dice) scratchedLine(line string) string {
	at := d.IntN(len(line) + 1)
	switch words := strings.Split(line, " "); d.IntN(6) {
	case 0:
		return line[:at]
	case 1:
		return line[:at] + d.pick([]string{" ", "0", "x", "\n", "'", "<", "\xff"}, 2) + line[at:]
	case 2:
		i := d.IntN(len(words))
		return strings.Join(slices.Delete(words, i, i+1), " ")
	case 3:
		i := d.IntN(len(words))
		return strings.Join(slices.Insert(words, i, words[d.IntN(len(words))]), " ")
	case 4:
		return d.scratchedBy(line, " 0x:")
	default:
		return line
	}
}

func TestWrongLinesOfASession(t *testing.T) {
	d := newDice()
	whats := 0
	for range 60 {
		lines := d.lines(t, d.IntN(58), false)
		for i := range lines[1:] {
			lines[1+i] = d.scratchedLine(lines[1+i])
		}
		for _, text := range checkMany(t, lines) {
			if text == "what" {
				whats++
			}
		}
	}
	if whats < 400 {
		t.Error(whats)
	}
}

func TestWrongFirstLinesOfASession(t *testing.T) {
	d := newDice()
	right, wrong := 0, 0
	for range 3000 {
		line := d.scratchedLine(usersLine(accountsOf(playUsers[:1+d.IntN(4)]...)))
		want := "wrong"
		if accountsStand(line) {
			want = "ok"
			right++
		} else {
			wrong++
		}
		checkSession(t, []string{line}, want)
		if want == "wrong" {
			checkSession(t, []string{line, "tick", "users a:b"}, want)
		}
	}
	if right < 300 || wrong < 300 {
		t.Error(right, wrong)
	}
}

// accountsStand says whether a line is one of accounts that are ok.
func accountsStand(line string) bool {
	var list []impl.Account
	parts := strings.Split(line, " ")
	for _, part := range parts[1:] {
		user, pass, _ := strings.Cut(part, ":")
		list = append(list, impl.Account{User: user, Pass: pass})
	}
	return len(impl.ServerNew(list).Accounts) > 0 && line == usersLine(list)
}

func TestSessionKeepsNothing(t *testing.T) {
	first := impl.Session(exampleLines)
	impl.Session(denLines)
	impl.Session([]string{"users"})
	if impl.Session(exampleLines) != first || first != joined(exampleAnswers...) {
		t.Error("the same lines are answered otherwise")
	}
	// What stands behind the lines is not read, and stays.
	spare := with(exampleLines, "tick", "safe")
	checkSession(t, spare[:len(exampleLines)], exampleAnswers...)
	if spare[len(exampleLines)] != "tick" || spare[len(exampleLines)+1] != "safe" {
		t.Error(spare)
	}
	// No answer shares memory with a line.
	for _, lines := range [][]string{exampleLines, denLines, {"users"}, {"users ann:pa", "room den", "safe", "what"}} {
		got := impl.Session(lines)
		for _, line := range lines {
			checkOwn(t, line, got)
		}
	}
}
