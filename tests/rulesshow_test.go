package tests

import (
	"slices"
	"strings"
	"testing"

	"loop.example/hubbub/impl"
)

// at is an entry of which rules can mean something, and nothing else.
func at(room, user string, kind int) impl.Entry {
	return impl.Entry{Room: room, User: user, Kind: kind}
}

// oneOfEach is an entry of each of some rooms, users and kinds, also of such as no rule can name; each has a number of its own.
func oneOfEach() []impl.Entry {
	var log []impl.Entry
	for _, room := range []string{"a", "ann", "", "den"} {
		for _, user := range []string{"a", "ab", "ann", "*"} {
			for kind := -1; kind < 8; kind++ {
				log = append(log, impl.Entry{Room: room, User: user, Kind: kind, Seq: len(log)})
			}
		}
	}
	return log
}

// ruleMeans asks anew whether a rule means an entry.
func ruleMeans(r impl.Rule, e impl.Entry) bool {
	if r.Room != "" && r.Room != e.Room {
		return false
	}
	if r.User != "" && r.User != e.User {
		return false
	}
	return r.Kind == 0 || r.Kind == e.Kind
}

// shownBy asks anew whether rules that are ok show an entry: from the last rule to the first, each over those behind.
func shownBy(list []impl.Rule, e impl.Entry) bool {
	shown := true
	for i := len(list) - 1; i >= 0; i-- {
		if ruleMeans(list[i], e) {
			shown = !list[i].Quiet
		}
	}
	return shown
}

func TestRulesShow(t *testing.T) {
	e := at("den", "ann", 3)
	for what, c := range map[string]struct {
		list []impl.Rule
		want bool
	}{
		"no rules":                     {nil, true},
		"no rules, either":             {rules(), true},
		"all":                          {rules(shows("", "", 0)), true},
		"nothing":                      {rules(hides("", "", 0)), false},
		"its room":                     {rules(hides("den", "", 0)), false},
		"its user":                     {rules(hides("", "ann", 0)), false},
		"its kind":                     {rules(hides("", "", 3)), false},
		"its room and user":            {rules(hides("den", "ann", 0)), false},
		"its room and kind":            {rules(hides("den", "", 3)), false},
		"its user and kind":            {rules(hides("", "ann", 3)), false},
		"all of it":                    {rules(hides("den", "ann", 3)), false},
		"another room":                 {rules(hides("hall", "", 0)), true},
		"another user":                 {rules(hides("", "bob", 0)), true},
		"another kind":                 {rules(hides("", "", 4)), true},
		"another room, its user":       {rules(hides("hall", "ann", 3)), true},
		"another user, its room":       {rules(hides("den", "bob", 3)), true},
		"another kind, its room":       {rules(hides("den", "ann", 2)), true},
		"room and user changed over":   {rules(hides("ann", "den", 3)), true},
		"the beginning of its room":    {rules(hides("de", "", 0), hides("", "an", 0), hides("denn", "", 0), hides("", "anna", 0)), true},
		"shown first, then quiet":      {rules(shows("den", "", 0), hides("den", "", 0)), true},
		"quiet first, then shown":      {rules(hides("den", "", 0), shows("den", "", 0)), false},
		"less first, shown":            {rules(shows("den", "ann", 3), hides("", "", 0)), true},
		"less first, quiet":            {rules(hides("den", "ann", 3), shows("", "", 0)), false},
		"more first, shown":            {rules(shows("", "", 0), hides("den", "ann", 3)), true},
		"more first, quiet":            {rules(hides("", "", 0), shows("den", "ann", 3)), false},
		"others first, then shown":     {rules(hides("hall", "", 0), hides("", "bob", 0), shows("", "", 3), hides("", "", 0)), true},
		"others first, then quiet":     {rules(shows("hall", "", 0), shows("", "bob", 0), hides("", "", 3), shows("", "", 0)), false},
		"others alone":                 {rules(hides("hall", "", 0), hides("", "bob", 0), hides("", "", 1)), true},
		"as many as can be, the last":  {append(slices.Repeat(rules(shows("hall", "", 0)), 7), hides("", "", 3)), false},
		"as many as can be, none":      {slices.Repeat(rules(hides("hall", "", 0)), 8), true},
		"one more":                     {slices.Repeat(rules(shows("", "", 0)), 9), false},
		"one that is none, behind":     {rules(shows("", "", 0), shows("", "", 7)), false},
		"one that is none, of no room": {rules(shows("", "", 0), shows("Den", "", 0)), false},
	} {
		if got := impl.RulesShow(c.list, e); got != c.want {
			t.Errorf("%s: %v", what, got)
		}
		// What an entry says apart from that changes nothing.
		whole := impl.Entry{Room: "den", Seq: 7, Kind: 3, User: "ann", Nick: "hall", Text: "bob", Id: "hall", Ref: "bob", Num: 4}
		if got := impl.RulesShow(c.list, whole); got != c.want {
			t.Errorf("%s, of a whole entry: %v", what, got)
		}
	}
}

// What is no entry is taken as it stands.
func TestRulesShowOfNoEntry(t *testing.T) {
	for _, e := range []impl.Entry{{}, at("", "", 7), at("", "", -1), at("Den", "Ann", 7), at("*", "*", -1), at(strings.Repeat("x", 1<<20), "\xff", 1<<62), {Seq: -1, Num: 99, Text: "\x00"}} {
		for _, list := range [][]impl.Rule{nil, rules(shows("", "", 0)), rules(hides("den", "", 0), hides("", "ann", 0), hides("", "", 1), hides("", "", 6))} {
			if !impl.RulesShow(list, e) {
				t.Errorf("RulesShow(%+v, %.200v) is false", list, e)
			}
		}
		if impl.RulesShow(rules(hides("", "", 0)), e) {
			t.Errorf("RulesShow(%.200v) is true, of an empty rule that is Quiet", e)
		}
	}
	// Each part of it may be what a rule means.
	for _, c := range []struct {
		r impl.Rule
		e impl.Entry
	}{
		{hides("den", "", 0), at("den", "", 0)}, {hides("", "ann", 0), at("", "ann", 9)}, {hides("", "", 6), at("", "", 6)}, {hides("den", "", 0), at("den", "Ann", -1)},
	} {
		if impl.RulesShow(rules(c.r), c.e) || !impl.RulesShow(rules(c.r), impl.Entry{}) {
			t.Errorf("RulesShow(%+v, %+v)", c.r, c.e)
		}
	}
}

// checkShown holds what rules show against what they mean.
func checkShown(t *testing.T, list []impl.Rule, log []impl.Entry) {
	t.Helper()
	for _, e := range log {
		if got := impl.RulesShow(list, e); got != shownBy(list, e) {
			t.Fatalf("RulesShow(%+v, %+v) is %v", list, e, got)
		}
	}
}

func TestP78TheFirstRuleThatMeansSomethingSays(t *testing.T) {
	d := newDice()
	log := oneOfEach()
	all, none := shows("", "", 0), hides("", "", 0)
	for range 300 {
		list := d.rules(7)
		checkShown(t, list, log)
		allAhead, noneAhead := slices.Concat(rules(all), list), slices.Concat(rules(none), list)
		allBehind, noneBehind := slices.Concat(list, rules(all)), slices.Concat(list, rules(none))
		for _, e := range log {
			if !impl.RulesShow(allAhead, e) || impl.RulesShow(noneAhead, e) {
				t.Fatalf("an empty rule ahead of %+v does not say what becomes of %+v", list, e)
			}
			if impl.RulesShow(allBehind, e) != impl.RulesShow(list, e) {
				t.Fatalf("an empty rule behind %+v changes what becomes of %+v", list, e)
			}
			meant := slices.ContainsFunc(list, func(r impl.Rule) bool { return ruleMeans(r, e) })
			if got := impl.RulesShow(noneBehind, e); got != (meant && impl.RulesShow(list, e)) {
				t.Fatalf("an empty rule that is Quiet, behind %+v, says %v of %+v", list, got, e)
			}
		}
	}
	// With one more than there can be nothing is shown.
	for _, full := range [][]impl.Rule{slices.Repeat(rules(all), 8), slices.Repeat(rules(hides("den", "", 0)), 8)} {
		if impl.RulesShow(append(rules(all), full...), log[0]) || impl.RulesShow(append(slices.Clone(full), all), log[0]) || !impl.RulesShow(full, log[0]) {
			t.Errorf("with one more than %+v", full)
		}
	}
}

// Each rule of few words alone, and each two of them, hold for each entry.
func TestRulesShowOfEachTwo(t *testing.T) {
	var all []impl.Rule
	for _, room := range []string{"", "a", "ab"} {
		for _, user := range []string{"", "ann"} {
			for _, kind := range []int{0, 6} {
				all = append(all, shows(room, user, kind), hides(room, user, kind))
			}
		}
	}
	log := oneOfEach()
	for _, a := range all {
		checkShown(t, rules(a), log)
		for _, b := range all {
			list := rules(a, b)
			if got := impl.RulesFilter(list, log); !slices.Equal(got, filtered(list, log)) {
				t.Fatalf("RulesFilter(%+v) is %+v", list, got)
			}
			checkTidy(t, list, log)
		}
	}
}

// filtered asks anew for what rules that are ok show.
func filtered(list []impl.Rule, log []impl.Entry) []impl.Entry {
	return slices.DeleteFunc(slices.Clone(log), func(e impl.Entry) bool { return !shownBy(list, e) })
}

func TestRulesFilter(t *testing.T) {
	a, b, c := said(1, "ann", "m", "", "one"), said(2, "bob", "m", "", "two"), inRoom("hall", said(1, "ann", "m", "", "one"))
	j := asKind(impl.EntryJoin, a)
	for what, x := range map[string]struct {
		list      []impl.Rule
		log, want []impl.Entry
	}{
		"nothing, by no rules":        {nil, nil, nil},
		"nothing, by rules":           {rules(shows("", "", 0)), nil, nil},
		"one, by no rules":            {nil, []impl.Entry{a}, []impl.Entry{a}},
		"one that is shown":           {rules(shows("den", "", 0), hides("", "", 0)), []impl.Entry{a}, []impl.Entry{a}},
		"one that is quiet":           {rules(hides("den", "", 0)), []impl.Entry{a}, nil},
		"several, by no rules":        {rules(), []impl.Entry{b, a, c, j}, []impl.Entry{b, a, c, j}},
		"several, none of them":       {rules(hides("", "", 0)), []impl.Entry{a, b, c, j}, nil},
		"several, all of them":        {rules(shows("", "", 0), hides("", "", 0)), []impl.Entry{a, b, c, j}, []impl.Entry{a, b, c, j}},
		"several, by room":            {rules(hides("den", "", 0)), []impl.Entry{a, b, c, j}, []impl.Entry{c}},
		"several, by user":            {rules(hides("", "ann", 0)), []impl.Entry{a, b, c, j}, []impl.Entry{b}},
		"several, by kind":            {rules(hides("", "", 1)), []impl.Entry{a, b, j, c}, []impl.Entry{a, b, c}},
		"several, one but for others": {rules(shows("den", "ann", 3), hides("den", "", 0)), []impl.Entry{c, a, b, j}, []impl.Entry{c, a}},
		"the same twice":              {rules(hides("", "bob", 0)), []impl.Entry{a, b, a, b}, []impl.Entry{a, a}},
		"against the order of Seq":    {rules(hides("", "", 1)), []impl.Entry{b, j, a}, []impl.Entry{b, a}},
		"what is no entry":            {rules(hides("", "", 3)), []impl.Entry{{}, a, at("Den", "", 7)}, []impl.Entry{{}, at("Den", "", 7)}},
	} {
		if got := impl.RulesFilter(x.list, x.log); !slices.Equal(got, x.want) {
			t.Errorf("%s: %+v, not %+v", what, got, x.want)
		}
	}
}

// spread is a log of entries of which few rules mean many, with much else in them.
func (d dice) spread() []impl.Entry {
	var log []impl.Entry
	names := []string{"a", "ab", "ann", "b", ""}
	for i := range d.IntN(25) {
		e := impl.Entry{Room: names[d.IntN(5)], Seq: i, Kind: d.IntN(9) - 1, User: names[d.IntN(5)], Nick: d.pick(names, 1), Text: d.pick(names, 1), Id: d.pick(names, 1), Ref: d.pick(names, 1), Num: d.IntN(5)}
		log = append(log, e)
	}
	return log
}

func TestP79WhatIsFilteredIsWhatIsShown(t *testing.T) {
	d := newDice()
	some, left := 0, 0
	for range 5000 {
		list, log := d.rules(8), d.spread()
		if d.IntN(10) == 0 {
			list = d.brokenRules()
		}
		var want []impl.Entry
		for _, e := range log {
			if impl.RulesShow(list, e) {
				want = append(want, e)
			}
		}
		got := impl.RulesFilter(list, log)
		if !slices.Equal(got, want) || rulesFit(list) && !slices.Equal(got, filtered(list, log)) {
			t.Fatalf("RulesFilter(%+v, %+v) is %+v, not %+v", list, log, got, want)
		}
		if again := impl.RulesFilter(list, got); !slices.Equal(again, got) {
			t.Fatalf("RulesFilter(%+v) of %+v is %+v", list, got, again)
		}
		some += len(got)
		left += len(log) - len(got)
	}
	if some < 5000 || left < 5000 {
		t.Error(some, left)
	}
}

func TestRulesTidy(t *testing.T) {
	den, ann, talk := hides("den", "", 0), hides("", "ann", 0), hides("", "", 3)
	whole := hides("den", "ann", 3)
	for what, c := range map[string]struct {
		list, want []impl.Rule
	}{
		"no rules":         {nil, nil},
		"no rules, either": {rules(), nil},
		"one":              {rules(den), rules(den)},
		"all is quiet":     {rules(hides("", "", 0)), rules(hides("", "", 0))},
		// Behind one that means as much.
		"the same twice":                 {rules(den, den), rules(den)},
		"the same twice, others between": {rules(den, ann, den, talk, ann), rules(den, ann, talk)},
		"the same as often as can be":    {slices.Repeat(rules(whole), 8), rules(whole)},
		"as much, not quiet behind":      {rules(den, shows("den", "", 0), ann), rules(den, ann)},
		"as much, quiet behind":          {rules(shows("den", "", 0), den, ann), rules(shows("den", "", 0), ann)},
		// Behind one that means more.
		"more by room":                    {rules(hides("", "ann", 3), whole), rules(hides("", "ann", 3))},
		"more by user":                    {rules(hides("den", "", 3), whole), rules(hides("den", "", 3))},
		"more by kind":                    {rules(hides("den", "ann", 0), whole), rules(hides("den", "ann", 0))},
		"more by two":                     {rules(talk, whole), rules(talk)},
		"more by all":                     {rules(hides("", "", 0), whole, den, ann, talk), rules(hides("", "", 0))},
		"more, not quiet behind":          {rules(den, shows("den", "ann", 0), talk), rules(den, talk)},
		"more, quiet behind":              {rules(shows("den", "", 0), hides("den", "ann", 0), talk), rules(shows("den", "", 0), talk)},
		"more, not quiet behind, at last": {rules(den, shows("den", "ann", 0)), rules(den)},
		"more, not at once ahead":         {rules(den, ann, talk, whole), rules(den, ann, talk)},
		"behind one that is left out":     {rules(den, hides("den", "ann", 0), whole, talk), rules(den, talk)},
		"of two ahead one alone":          {rules(hides("hall", "", 0), den, whole), rules(hides("hall", "", 0), den)},
		// Less, or something else, ahead.
		"less ahead":              {rules(whole, den), rules(whole, den)},
		"less ahead, not quiet":   {rules(shows("den", "ann", 3), den), rules(shows("den", "ann", 3), den)},
		"other rooms":             {rules(den, hides("hall", "", 0)), rules(den, hides("hall", "", 0))},
		"other users":             {rules(ann, hides("", "bob", 0)), rules(ann, hides("", "bob", 0))},
		"other kinds":             {rules(talk, hides("", "", 4)), rules(talk, hides("", "", 4))},
		"some that mean some":     {rules(hides("den", "ann", 0), hides("den", "", 3), hides("", "ann", 3)), rules(hides("den", "ann", 0), hides("den", "", 3), hides("", "ann", 3))},
		"more here, less there":   {rules(hides("den", "", 3), hides("", "ann", 3)), rules(hides("den", "", 3), hides("", "ann", 3))},
		"all of it in two of one": {rules(den, ann, hides("", "", 0)), rules(den, ann, hides("", "", 0))},
		// The last ones.
		"one that is not quiet":           {rules(shows("", "", 0)), nil},
		"all not quiet":                   {rules(shows("den", "", 0), shows("", "ann", 0), shows("", "", 3)), nil},
		"the last":                        {rules(den, shows("", "ann", 0)), rules(den)},
		"the last ones":                   {rules(den, shows("", "ann", 0), shows("", "", 3), shows("hall", "", 0)), rules(den)},
		"one ahead of one that is quiet":  {rules(shows("den", "ann", 0), den), rules(shows("den", "ann", 0), den)},
		"one ahead of one of others":      {rules(shows("hall", "", 0), den), rules(shows("hall", "", 0), den)},
		"some between":                    {rules(shows("hall", "", 0), den, shows("", "ann", 0), talk, shows("", "", 0)), rules(shows("hall", "", 0), den, shows("", "ann", 0), talk)},
		"all that is quiet is left out":   {rules(shows("", "", 0), den, ann, talk, hides("", "", 0)), nil},
		"what is quiet is left out first": {rules(shows("", "ann", 0), hides("den", "ann", 0), shows("den", "", 0)), nil},
		// What goes from the end was ahead of others that are gone by then.
		"one behind the last ones": {rules(den, shows("", "ann", 0), hides("hall", "ann", 0)), rules(den)},
		"as many as can be":        {rules(shows("", "a", 1), shows("", "a", 2), shows("", "a", 3), shows("", "a", 4), shows("", "a", 5), shows("", "a", 6), shows("", "b", 0), hides("", "a", 0)), rules(shows("", "a", 1), shows("", "a", 2), shows("", "a", 3), shows("", "a", 4), shows("", "a", 5), shows("", "a", 6), shows("", "b", 0), hides("", "a", 0))},
		"one more":                 {slices.Repeat(rules(den), 9), nil},
	} {
		if got := impl.RulesTidy(c.list); !slices.Equal(got, c.want) {
			t.Errorf("%s: %+v, not %+v", what, got, c.want)
		}
		checkTidy(t, c.list, oneOfEach())
	}
}

// tidied asks anew for tidy rules: those that a rule of the list ahead leaves something to, from the first that is not of the last ones.
func tidied(list []impl.Rule) []impl.Rule {
	covers := func(a, b impl.Rule) bool {
		return slices.Contains([]string{"", b.Room}, a.Room) && slices.Contains([]string{"", b.User}, a.User) && slices.Contains([]int{0, b.Kind}, a.Kind)
	}
	var out []impl.Rule
	size := 0
	for i, r := range list {
		// That one that is itself left out is ahead is no matter: another one is ahead of that.
		if slices.ContainsFunc(list[:i], func(a impl.Rule) bool { return covers(a, r) }) {
			continue
		}
		out = append(out, r)
		if r.Quiet {
			size = len(out)
		}
	}
	return out[:size]
}

// checkTidy holds tidy rules against the rules from which they come, by what they show of a log.
func checkTidy(t *testing.T, list []impl.Rule, log []impl.Entry) {
	t.Helper()
	got := impl.RulesTidy(list)
	if rulesFit(list) && !slices.Equal(got, tidied(list)) {
		t.Fatalf("RulesTidy(%+v) is %+v, not %+v", list, got, tidied(list))
	}
	if again := impl.RulesTidy(got); len(got) > len(list) || !slices.Equal(again, got) {
		t.Fatalf("RulesTidy of %+v, of %+v, is %+v", got, list, again)
	}
	if a, b := impl.RulesFilter(got, log), impl.RulesFilter(list, log); rulesFit(list) && !slices.Equal(a, b) {
		t.Fatalf("RulesTidy(%+v) is %+v, by which %d are shown, not %d", list, got, len(a), len(b))
	}
}

func TestP80TidiedRulesShowTheSame(t *testing.T) {
	d := newDice()
	log := oneOfEach()
	less, same := 0, 0
	for range 1500 {
		list := d.rules(8)
		if d.IntN(10) == 0 {
			list = d.brokenRules()
		}
		checkTidy(t, list, log)
		if len(impl.RulesTidy(list)) < len(list) {
			less++
		} else {
			same++
		}
	}
	if less < 500 || same < 150 {
		t.Error(less, same)
	}
}

// isAmong says whether all of a list is in another one, in order.
func isAmong(some, all []impl.Entry) bool {
	for _, e := range all {
		if len(some) > 0 && some[0] == e {
			some = some[1:]
		}
	}
	return len(some) == 0
}

func TestP81RulesBehindOthersAreAskedOfWhatThoseDoNotMean(t *testing.T) {
	d := newDice()
	less, same, many := 0, 0, 0
	for range 5000 {
		a, b, log := d.rules(5), d.rules(5), d.spread()
		if d.IntN(20) == 0 {
			b = d.brokenRules()
		}
		both := slices.Concat(a, b)
		first, got := impl.RulesFilter(a, log), impl.RulesFilter(both, log)
		if !isAmong(got, first) {
			t.Fatalf("RulesFilter(%+v, %+v) is %+v, and of %+v %+v", both, log, got, a, first)
		}
		if !rulesFit(both) {
			many++
			continue
		}
		// What the first mean stays as they say, all else is as the others say.
		for _, e := range log {
			of := b
			if slices.ContainsFunc(a, func(r impl.Rule) bool { return ruleMeans(r, e) }) {
				of = a
			}
			if impl.RulesShow(both, e) != impl.RulesShow(of, e) {
				t.Fatalf("RulesShow(%+v, %+v) is not as of %+v", both, e, of)
			}
		}
		if len(got) < len(first) {
			less++
		} else {
			same++
		}
	}
	if less < 700 || same < 700 || many < 120 {
		t.Error(less, same, many)
	}
}

func textsOfRules(list ...impl.Rule) []string {
	var texts []string
	for _, r := range list {
		texts = append(texts, r.Room, r.User)
	}
	return texts
}

func TestRulesShareNoMemory(t *testing.T) {
	// Texts of their own, as those that stand in the program are one.
	list := rules(shows(strings.Clone("den"), strings.Clone("ann"), 3), hides(strings.Clone("den"), "", 0), hides("", strings.Clone("bob"), 1), hides("den", "", 1), hides("mark", "mark", 1))[:4]
	was := slices.Clone(list[:5])
	log := append(seekLog(), said(9, "mark", "m", "", "x"))[:len(seekLog())]
	text := strings.Clone(impl.RulesPut(list))
	for range 2 {
		got, ok := impl.RulesGet(text)
		if !ok || !slices.Equal(got, list) {
			t.Fatal(got, ok)
		}
		checkOwn(t, text, textsOfRules(got...)...)
		clear(got[:cap(got)])
		tidy := impl.RulesTidy(list)
		if !slices.Equal(tidy, list[:3]) || shareText(textsOfRules(tidy...), textsOfRules(list...)) {
			t.Error("RulesTidy shares a text with the rules", tidy)
		}
		clear(tidy[:cap(tidy)])
		shown := impl.RulesFilter(list[2:], log)
		if !slices.Equal(shown, log) || shareText(textsOfEntries(shown...), textsOfEntries(log...)) {
			t.Error("RulesFilter shares a text with the log", shown)
		}
		clear(shown[:cap(shown)])
	}
	if !slices.Equal(list[:5], was) || !slices.Equal(log[:len(log)+1], append(seekLog(), said(9, "mark", "m", "", "x"))) {
		t.Error("an argument was changed", list[:5], log)
	}
}
