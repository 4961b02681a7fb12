package tests

import (
	"slices"
	"strings"
	"testing"

	"loop.example/hubbub/impl"
)

// The limit is the document's: other tests take it by name.
func TestRulesNumber(t *testing.T) {
	if impl.RulesMax != 8 {
		t.Error(impl.RulesMax)
	}
}

// shows is a rule that shows what it means, hides one that is Quiet.
func shows(room, user string, kind int) impl.Rule {
	return impl.Rule{Room: room, User: user, Kind: kind}
}

func hides(room, user string, kind int) impl.Rule {
	return impl.Rule{Quiet: true, Room: room, User: user, Kind: kind}
}

func rules(list ...impl.Rule) []impl.Rule {
	return list
}

var rulesCases = []struct {
	text string
	list []impl.Rule
}{
	{"", nil},
	{"show * * *\n", rules(shows("", "", 0))},
	{"quiet * * *\n", rules(hides("", "", 0))},
	// Each word of a kind, and a star in each place.
	{"show * * join\n", rules(shows("", "", 1))},
	{"show * * leave\n", rules(shows("", "", 2))},
	{"show * * talk\n", rules(shows("", "", 3))},
	{"show * * subject\n", rules(shows("", "", 4))},
	{"show * * role\n", rules(shows("", "", 5))},
	{"show * * rank\n", rules(shows("", "", 6))},
	{"quiet den * *\n", rules(hides("den", "", 0))},
	{"quiet * ann *\n", rules(hides("", "ann", 0))},
	{"quiet den ann *\n", rules(hides("den", "ann", 0))},
	{"quiet den * join\n", rules(hides("den", "", 1))},
	{"quiet * ann leave\n", rules(hides("", "ann", 2))},
	{"quiet den ann talk\n", rules(hides("den", "ann", 3))},
	// What could be taken for another word.
	{"show show show subject\n", rules(shows("show", "show", 4))},
	{"quiet quiet quiet role\n", rules(hides("quiet", "quiet", 5))},
	{"show quiet join rank\n", rules(shows("quiet", "join", 6))},
	{"quiet rank 0 *\n", rules(hides("rank", "0", 0))},
	{"show - . talk\n", rules(shows("-", ".", 3))},
	{"show abcdefgh 12345678 subject\n", rules(shows("abcdefgh", "12345678", 4))},
	// Several, the same one again among them.
	{"show den ann talk\nquiet den * *\n", rules(shows("den", "ann", 3), hides("den", "", 0))},
	{"quiet den * *\nshow den ann talk\n", rules(hides("den", "", 0), shows("den", "ann", 3))},
	{"show * * *\nshow * * *\nquiet * * *\n", rules(shows("", "", 0), shows("", "", 0), hides("", "", 0))},
	{strings.Repeat("quiet a b rank\n", 8), slices.Repeat(rules(hides("a", "b", 6)), 8)},
	{strings.Repeat("quiet abcdefgh 12345678 subject\n", 8), slices.Repeat(rules(hides("abcdefgh", "12345678", 4)), 8)},
}

func TestRulesAreWritten(t *testing.T) {
	for _, c := range rulesCases {
		if got := impl.RulesPut(c.list); got != c.text {
			t.Errorf("RulesPut(%+v) is %q, not %q", c.list, got, c.text)
		}
		if list, ok := impl.RulesGet(c.text); !ok || !slices.Equal(list, c.list) {
			t.Errorf("RulesGet(%q) is %+v, %v", c.text, list, ok)
		}
	}
	if got := impl.RulesPut([]impl.Rule{}); got != "" {
		t.Errorf("RulesPut of no rules is %q", got)
	}
}

func checkNoRules(t *testing.T, text string) {
	t.Helper()
	if list, ok := impl.RulesGet(text); ok || len(list) > 0 {
		t.Errorf("RulesGet(%.200q) is %+v, %v", text, list, ok)
	}
}

func TestRulesAreNotRead(t *testing.T) {
	const fine = "quiet den ann join\n"
	for _, text := range []string{
		// Newlines: none at the end, one too many, at the beginning, between, others.
		"quiet den ann join", fine + "\n", "\n" + fine, fine + "\n" + fine, "\n", "\n\n", fine + "show * * *", "quiet den ann join\r\n", "quiet den ann join\r", "quiet\nden ann join\n", "quiet den\nann join\n", "quiet den ann\njoin\n", "quiet den ann join\x00", "quiet den ann join\n\x00", "quiet den ann join;", "quiet den ann join show * * *\n",
		// Blanks: two, at either end, others.
		"quiet  den ann join\n", "quiet den  ann join\n", "quiet den ann  join\n", " quiet den ann join\n", "quiet den ann join \n", "quiet den ann join\n ", fine + " ", fine + " " + fine, " ", " \n", "   \n", "    \n", "quiet\tden ann join\n", "quiet den ann\tjoin\n", "quiet den\u00a0ann join\n", "quietden ann join\n", "quiet den annjoin\n", "quiet denann join\n",
		// Words: too many, too few, none.
		"quiet den ann join x\n", "quiet den ann join *\n", "quiet den ann join join\n", "quiet quiet den ann join\n", "quiet den ann\n", "quiet den join\n", "den ann join\n", "quiet den\n", "quiet\n", "quiet \n", "show\n", "*\n", "* *\n", "* * *\n", "quiet * *\n", "quiet  ann join\n", "quiet den  join\n", "quiet den ann \n", " den ann join\n", "quiet   \n", "quiet", "show * * ", "x",
		// Another first word.
		"hush den ann join\n", "* den ann join\n", "shows den ann join\n", "sho den ann join\n", "quie den ann join\n", "quiets den ann join\n", "loud den ann join\n", "true den ann join\n", "join den ann join\n", "0 den ann join\n",
		// Another word of a kind.
		"quiet den ann all\n", "quiet den ann joi\n", "quiet den ann joins\n", "quiet den ann 1\n", "quiet den ann 0\n", "quiet den ann none\n", "quiet den ann entry\n", "quiet den ann **\n", "quiet den ann quiet\n", "quiet den ann message\n", "quiet den ann say\n", "quiet den ann -1\n",
		// Big letters.
		"Quiet den ann join\n", "QUIET den ann join\n", "Show den ann join\n", "quiet Den ann join\n", "quiet den Ann join\n", "quiet den ann Join\n", "quiet den ann JOIN\n",
		// What is no room, and no user.
		"quiet ** ann join\n", "quiet den ** join\n", "quiet *x ann join\n", "quiet den x* join\n", "quiet abcdefghi ann join\n", "quiet den abcdefghi join\n", "quiet den@h ann join\n", "quiet den ann/Ann join\n", "quiet d\xff ann join\n", "quiet den é join\n", "quiet \"den\" ann join\n",
		// One that is wrong behind and ahead of one that is not.
		fine + "hush den ann join\n", "hush den ann join\n" + fine, fine + "quiet den ann all\n" + fine,
		// One too many.
		strings.Repeat(fine, 9), strings.Repeat("show * * *\n", 9), strings.Repeat(fine, 8) + "\n", strings.Repeat(fine, 8) + "x", strings.Repeat(fine, 8) + " \n", strings.Repeat(fine, 8) + "quiet", strings.Repeat("\n", 8), strings.Repeat("\n", 9), strings.Repeat(fine, 100000), strings.Repeat("\n", 1<<20), strings.Repeat(" ", 1<<20), strings.Repeat("quiet ", 100000), "quiet " + strings.Repeat("x", 1<<20) + " ann join\n",
	} {
		checkNoRules(t, text)
	}
	// What is cut off, alone and behind one that is whole.
	for i := 1; i < len(fine); i++ {
		checkNoRules(t, fine[:i])
		checkNoRules(t, fine[i:])
		checkNoRules(t, fine+fine[:i])
		checkNoRules(t, fine[:i]+fine)
	}
	checkNoRules(t, fine[1:]+fine[:1])
}

// badRules is a list for each way not to be rules.
func badRules() [][]impl.Rule {
	fine := hides("den", "ann", 1)
	list := [][]impl.Rule{
		rules(shows("", "", -1)), rules(shows("", "", 7)), rules(hides("den", "ann", -1)), rules(hides("den", "ann", 7)), rules(shows("", "", 1<<62)), rules(shows("", "", -1<<63)),
		rules(shows("*", "", 0)), rules(shows("", "*", 0)), rules(hides("*", "*", 0)), rules(hides(" ", "", 0)), rules(hides("", "\n", 0)), rules(shows("den ann join\nshow", "", 0)),
		rules(shows(strings.Repeat("x", 1<<20), "", 0)),
		slices.Repeat(rules(fine), 9), slices.Repeat(rules(shows("", "", 0)), 9), make([]impl.Rule, 100000),
		rules(fine, fine, shows("", "", 7)), rules(shows("", "", -1), fine), rules(fine, shows("Den", "", 0), fine), slices.Insert(slices.Repeat(rules(fine), 7), 7, shows("", "Ann", 0)),
	}
	for _, name := range badUsers {
		list = append(list, rules(shows(name, "", 0)), rules(hides("", name, 0)), rules(fine, hides(name, "ann", 3)), rules(shows("den", name, 3), fine))
	}
	return list
}

func TestRulesNotOk(t *testing.T) {
	log := []impl.Entry{{Room: "den", User: "ann", Kind: impl.EntryJoin}, said(1, "bob", "m", "", "x"), {}}
	for _, list := range badRules() {
		if got := impl.RulesPut(list); got != "" {
			t.Errorf("RulesPut(%.200v) is %q", list, got)
		}
		for _, e := range log {
			if impl.RulesShow(list, e) {
				t.Errorf("RulesShow(%.200v, %+v) is true", list, e)
			}
		}
		if got := impl.RulesFilter(list, log); len(got) > 0 {
			t.Errorf("RulesFilter(%.200v) is %+v", list, got)
		}
		if got := impl.RulesTidy(list); len(got) > 0 {
			t.Errorf("RulesTidy(%.200v) is %+v", list, got)
		}
	}
}

// Kinds and names, each at its edges, in each of the functions.
func TestRulesOfEachKindAndName(t *testing.T) {
	words := []string{"*", "join", "leave", "talk", "subject", "role", "rank"}
	for kind := -2; kind < 10; kind++ {
		list, want := rules(hides("", "", kind)), ""
		if 0 <= kind && kind <= 6 {
			want = "quiet * * " + words[kind] + "\n"
		}
		if got := impl.RulesPut(list); got != want {
			t.Errorf("RulesPut of the kind %d is %q", kind, got)
		}
		if got := impl.RulesTidy(list); (want != "") != slices.Equal(got, list) {
			t.Errorf("RulesTidy of the kind %d is %+v", kind, got)
		}
	}
	for _, name := range append([]string{""}, goodUsers...) {
		word := name
		if name == "" {
			word = "*"
		}
		list := rules(hides(name, "", 0), shows("", name, 6))
		want := "quiet " + word + " * *\nshow * " + word + " rank\n"
		if got := impl.RulesPut(list); got != want {
			t.Errorf("RulesPut(%+v) is %q", list, got)
		}
		if got, ok := impl.RulesGet(want); !ok || !slices.Equal(got, list) {
			t.Errorf("RulesGet(%q) is %+v, %v", want, got, ok)
		}
	}
	for _, name := range append([]string{""}, badUsers...) {
		checkNoRules(t, "quiet "+name+" * *\n")
		checkNoRules(t, "show * "+name+" rank\n")
	}
}

// rule is a rule that is ok, of few words, so that one means what another one means, too.
func (d dice) rule() impl.Rule {
	names := []string{"", "", "a", "ab", "ann"}
	return impl.Rule{Quiet: d.IntN(2) == 0, Room: names[d.IntN(5)], User: names[d.IntN(5)], Kind: max(0, d.IntN(10)-3)}
}

func (d dice) rules(most int) []impl.Rule {
	var list []impl.Rule
	for range d.IntN(most + 1) {
		list = append(list, d.rule())
	}
	return list
}

// brokenRules is rules with one thing changed, that may be none then.
func (d dice) brokenRules() []impl.Rule {
	list := append(d.rules(7), d.rule())
	r := &list[d.IntN(len(list))]
	switch d.IntN(4) {
	case 0:
		r.Room = d.pick(append([]string{"*", "a"}, badUsers...), 1)
	case 1:
		r.User = d.pick(append([]string{"*", "a"}, badUsers...), 1)
	case 2:
		r.Kind = d.IntN(11) - 2
	case 3:
		list = append(list, d.rules(8)...)
	}
	return list
}

// rulesFit asks anew what rules must be.
func rulesFit(list []impl.Rule) bool {
	wrong := func(name string) bool {
		apart := strings.Trim(name, "abcdefghijklmnopqrstuvwxyz0123456789-._")
		return len(name) > 8 || apart != ""
	}
	return len(list) <= 8 && !slices.ContainsFunc(list, func(r impl.Rule) bool {
		return wrong(r.Room) || wrong(r.User) || r.Kind < 0 || r.Kind > 6
	})
}

// rulesText is how rules are to be written.
func rulesText(list []impl.Rule) string {
	var out strings.Builder
	for _, r := range list {
		words := []string{"show", "*", "*", strings.Fields("* join leave talk subject role rank")[r.Kind]}
		if r.Quiet {
			words[0] = "quiet"
		}
		if r.Room != "" {
			words[1] = r.Room
		}
		if r.User != "" {
			words[2] = r.User
		}
		out.WriteString(strings.Join(words, " ") + "\n")
	}
	return out.String()
}

func TestP76RulesAreReadBack(t *testing.T) {
	d := newDice()
	fine, wrong := 0, 0
	for range 20000 {
		list := d.rules(8)
		if d.IntN(2) == 0 {
			list = d.brokenRules()
		}
		text, want := impl.RulesPut(list), ""
		if !rulesFit(list) {
			wrong++
			list = nil
		} else {
			fine++
			want = rulesText(list)
		}
		got, ok := impl.RulesGet(text)
		if text != want || !ok || !slices.Equal(got, list) {
			t.Fatalf("RulesGet(%q), of %+v, is %+v, %v", text, list, got, ok)
		}
	}
	if fine < 7000 || wrong < 2000 {
		t.Error(fine, wrong)
	}
}

// scratchedRules is how rules are written, with something changed in it.
func (d dice) scratchedRules() string {
	text := rulesText(d.rules(8))
	switch d.IntN(4) {
	case 0:
		return d.scratchedBy(text, "* \nab1A\xff")
	case 1:
		words := strings.SplitAfter(text, " ")
		i := d.IntN(len(words))
		return strings.Join(slices.Insert(words, i, words[d.IntN(len(words))]), "")
	case 2:
		lines := strings.SplitAfter(text, "\n")
		i := d.IntN(len(lines))
		return strings.Join(slices.Insert(lines, i, lines[d.IntN(len(lines))], lines[d.IntN(len(lines))]), "")
	default:
		at := d.IntN(len(text) + 1)
		return text[:at] + d.pick([]string{"quiet", "show", "join", "rank", "*", " ", "\n", "ann", ""}, 2) + text[at:]
	}
}

func TestP77WhatIsReadAsRulesIsWrittenJustSo(t *testing.T) {
	d := newDice()
	read, not := 0, 0
	for range 30000 {
		text := d.scratchedRules()
		list, ok := impl.RulesGet(text)
		if !ok {
			not++
			checkNoRules(t, text)
			continue
		}
		read++
		if !rulesFit(list) || len(list) > 8 || rulesText(list) != text || impl.RulesPut(list) != text {
			t.Fatalf("RulesGet(%q) is %+v", text, list)
		}
	}
	if read < 3000 || not < 3000 {
		t.Error(read, not)
	}
}

// Each byte, put in at each place and in the place of each, makes rules that are written just so, or none.
func TestRulesWithAnotherByte(t *testing.T) {
	const text = "show * a1 join\nquiet d * *\n"
	for i := range len(text) {
		for c := range 256 {
			s := string([]byte{byte(c)})
			for _, other := range []string{text[:i] + s + text[i:], text[:i] + s + text[i+1:]} {
				list, ok := impl.RulesGet(other)
				if ok != (len(list) > 0) || ok && (rulesText(list) != other || !rulesFit(list)) {
					t.Fatalf("RulesGet(%q) is %+v, %v", other, list, ok)
				}
			}
		}
	}
}
