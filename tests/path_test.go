package tests

import (
	"math"
	"slices"
	"strings"
	"testing"

	"loop.example/hubbub/impl"
)

// The limits are the document's: other tests take them by name.
func TestPathNumbers(t *testing.T) {
	if impl.StepMax != 5 || impl.PathMax != 160 {
		t.Error(impl.StepMax, impl.PathMax)
	}
}

// near is a step at once, deep one at any depth.
func near(name string) impl.Step { return impl.Step{Name: name} }
func deep(name string) impl.Step { return impl.Step{Deep: true, Name: name} }

// saying is a step with an attribute.
func saying(s impl.Step, attr, text string) impl.Step {
	s.Attr, s.Text = attr, text
	return s
}

func path(list ...impl.Step) []impl.Step {
	return list
}

// longStep is a step of as many bytes as there can be.
func longStep() impl.Step {
	return saying(deep(strings.Repeat("n", 12)), strings.Repeat("k", 12), strings.Repeat("t", 10))
}

// longPath is a path of 157 bytes and those of a text.
func longPath(text string) []impl.Step {
	return path(longStep(), longStep(), longStep(), deep("nnnnnnnnnnnn"), saying(deep("nnnnnnnnnnnn"), "k", text))
}

var longStepText = "//nnnnnnnnnnnn[kkkkkkkkkkkk='tttttttttt']"

var pathCases = []struct {
	text string
	list []impl.Step
}{
	{"a", path(near("a"))},
	{"*", path(near("*"))},
	{"//a", path(deep("a"))},
	{"//*", path(deep("*"))},
	{"a/b", path(near("a"), near("b"))},
	{"a//b", path(near("a"), deep("b"))},
	{"//a/b", path(deep("a"), near("b"))},
	{"//a//b", path(deep("a"), deep("b"))},
	{"a/*/b//*/c", path(near("a"), near("*"), near("b"), deep("*"), near("c"))},
	{"a/b/c/d/e", path(near("a"), near("b"), near("c"), near("d"), near("e"))},
	{"//a//b//c//d//e", path(deep("a"), deep("b"), deep("c"), deep("d"), deep("e"))},
	{"_", path(near("_"))},
	{"Z-1.x_", path(near("Z-1.x_"))},
	{"abcdefghijkl", path(near("abcdefghijkl"))},
	{"a[k='1']", path(saying(near("a"), "k", "1"))},
	{"a[k='']", path(saying(near("a"), "k", ""))},
	{"*[k='']", path(saying(near("*"), "k", ""))},
	{"//*[abcdefghijkl='0123456789']", path(saying(deep("*"), "abcdefghijkl", "0123456789"))},
	{"a[k='1']/b[k='2']//c", path(saying(near("a"), "k", "1"), saying(near("b"), "k", "2"), deep("c"))},
	{"a[k=']']/b", path(saying(near("a"), "k", "]"), near("b"))},
	{"a[k=']]']", path(saying(near("a"), "k", "]]"))},
	{"a[k='[/]']//b", path(saying(near("a"), "k", "[/]"), deep("b"))},
	{"a[k='//b']", path(saying(near("a"), "k", "//b"))},
	{"a[k='[j=\"\"]']", path(saying(near("a"), "k", `[j=""]`))},
	{"a[k=' ~\\|=']", path(saying(near("a"), "k", ` ~\|=`))},
	{"a[k='<&>\"*']", path(saying(near("a"), "k", `<&>"*`))},
	{"a[xmlns='q']", path(saying(near("a"), "xmlns", "q"))},
	{strings.Repeat(longStepText, 3) + "//nnnnnnnnnnnn//nnnnnnnnnnnn[k='ttt']", longPath("ttt")},
}

func TestPathIsWritten(t *testing.T) {
	for _, c := range pathCases {
		if !impl.PathOk(c.list) || impl.PathPut(c.list) != c.text {
			t.Errorf("PathPut(%+v) is %q, not %q", c.list, impl.PathPut(c.list), c.text)
		}
		if list, ok := impl.PathGet(c.text); !ok || !slices.Equal(list, c.list) {
			t.Errorf("PathGet(%q) is %+v, %v", c.text, list, ok)
		}
	}
}

func checkNoPath(t *testing.T, text string) {
	t.Helper()
	if list, ok := impl.PathGet(text); ok || len(list) > 0 {
		t.Errorf("PathGet(%q) is %+v, %v", text, list, ok)
	}
}

func TestPathIsNotRead(t *testing.T) {
	for _, text := range []string{
		// No step, or an empty one, ahead, between and behind.
		"", "/", "//", "///", "////", "/a", "///a", "////a", "a/", "a//", "a///", "a///b", "a////b", "/a/b", "a/b/", "//a/", "//a//", "//a///b", "/*", "///*", "*/", "//*/",
		// What is no name.
		"1", "-a", ".", "a b", " a", "a ", "a\n", "**", "*a", "a*", "*/**", "abcdefghijklm", "a/abcdefghijklm", "é", "\xff", "\x00", "a/1", "a//-", "a]", "]", "a'", "'a'", "a='1'", "a[", "a/[k='1']", "[k='1']", "//[k='1']",
		// What is no attribute.
		"a[]", "a[k]", "a[k=]", "a[k=1]", "a[k='1'", "a[k='1", "a[k='", "a[k=", "a[k", "a[k='1]", "a[k=1']", "a[k=\"1\"]", "a[='1']", "a['1']", "a[1='1']", "a[*='1']", "a[k ='1']", "a[k= '1']", "a[ k='1']", "a[k='1' ]", "a[k='1'] ", "a [k='1']", "a[k='1'j='2']", "a[abcdefghijklm='1']", "a[é='1']", "a[k/j='1']", "a[[k='1']", "a[k='1']]", "a[k==''", "a[k=='1']", "a[@k='1']",
		// What is no text.
		"a[k=''']", "a[k='''']", "a[k='a'b']", "a[k='''b']", "a[k='01234567890']", "a[k='é']", "a[k='\x7f']", "a[k='\x1f']", "a[k='\n']", "a[k='\t']", "a[k='\x00']", "a[k='\xff']", "a[k='\x80']",
		// More behind an attribute.
		"a[k='1']b", "a[k='1']*", "a[k='1'][j='2']", "a[k='']['x']", "a[k='1'][", "a[k='1']/", "a[k='1']//", "a[k='1']///b", "a[k='1']'", "a[k=']']]", "a[k='1']['2']",
		// One step more.
		"a/b/c/d/e/f", "//a//b//c//d//e//f", "a/b/c/d/e/", "a/b/c/d/e[k='1']/f",
		// One byte more.
		strings.Repeat(longStepText, 3) + "//nnnnnnnnnnnn//nnnnnnnnnnnn[k='tttt']", strings.Repeat(longStepText, 5),
		"a" + strings.Repeat(" ", 160), strings.Repeat("a", 160), strings.Repeat("/", 160), strings.Repeat("[", 160), strings.Repeat("a/", 80), strings.Repeat("a/", 100000), strings.Repeat("[", 100000),
	} {
		checkNoPath(t, text)
	}
}

// A path may be written that is too long to be read.
func TestPathMaxBytes(t *testing.T) {
	for n, read := range map[int]bool{2: true, 3: true, 4: false, 5: false, 10: false} {
		list := longPath(strings.Repeat("t", n))
		text := impl.PathPut(list)
		if len(text) != 157+n || !impl.PathOk(list) {
			t.Fatalf("PathPut(%+v) has %d bytes", list, len(text))
		}
		if got, ok := impl.PathGet(text); ok != read || read && !slices.Equal(got, list) {
			t.Errorf("PathGet(%q), of %d bytes, is %+v, %v", text, len(text), got, ok)
		}
	}
	longest := slices.Repeat(path(longStep()), 5)
	if text := impl.PathPut(longest); text != strings.Repeat(longStepText, 5) || len(text) != 205 {
		t.Error(text)
	}
}

func badPaths() [][]impl.Step {
	return [][]impl.Step{
		nil, {}, {{}}, path(deep("")), path(near("a"), near("")), path(near(""), near("a")),
		path(near("1")), path(near("**")), path(near("*a")), path(near("a b")), path(near("abcdefghijklm")), path(near("é")), path(near("a/b")), path(near("/a")), path(near("a[k='1']")), path(near("a"), near("b"), near(" ")),
		// Attr without a name, or Text alone.
		path(saying(near("a"), "", "1")), path(saying(near("a"), "", " ")), path(saying(near("a"), "*", "1")), path(saying(near("a"), "1", "1")), path(saying(near("a"), "k j", "")), path(saying(near("a"), "abcdefghijklm", "1")), path(saying(near("a"), "k='1' j", "")), path(saying(near("a"), "é", "1")), path(near("a"), saying(near("b"), "", "1")),
		// What no text may have.
		path(saying(near("a"), "k", "01234567890")), path(saying(near("a"), "k", "'")), path(saying(near("a"), "k", "a'b")), path(saying(near("a"), "k", "\x1f")), path(saying(near("a"), "k", "\x7f")), path(saying(near("a"), "k", "é")), path(saying(near("a"), "k", "\xff")), path(saying(near("a"), "k", "\n")), path(saying(near("a"), "k", strings.Repeat("x", 1<<20))),
		// One step more.
		slices.Repeat(path(near("a")), 6), slices.Repeat(path(deep("*")), 6), slices.Repeat(path(near("a")), 100000),
	}
}

func TestPathNotOk(t *testing.T) {
	tree, _ := impl.TreeGet("<a k='1'><b/></a>")
	for _, list := range badPaths() {
		if impl.PathOk(list) || impl.PathPut(list) != "" {
			t.Errorf("%.200v is taken as a path, %.80q", list, impl.PathPut(list))
		}
		if got := impl.PathFind(tree, list); len(got) > 0 {
			t.Errorf("PathFind of %.200v is %v", list, got)
		}
	}
}

func TestPathOkOfEachByte(t *testing.T) {
	for c := range 256 {
		s := string([]byte{byte(c)})
		if got, want := impl.PathOk(path(near(s))), impl.NameOk(s) || s == "*"; got != want {
			t.Errorf("PathOk of the name %q is %v", s, got)
		}
		if got, want := impl.PathOk(path(saying(near("a"), s, "1"))), impl.NameOk(s); got != want {
			t.Errorf("PathOk of the attribute %q is %v", s, got)
		}
		list := path(saying(near("a"), "k", "x"+s+"y"))
		want := 32 <= c && c <= 126 && c != '\''
		if impl.PathOk(list) != want {
			t.Errorf("PathOk of the text %q is %v", s, !want)
		}
		if got, ok := impl.PathGet("a[k='x" + s + "y']"); ok != want || want && !slices.Equal(got, list) {
			t.Errorf("PathGet of the text %q is %+v, %v", s, got, ok)
		}
	}
}

// step is a step that is ok, of few names, so that it leads somewhere.
func (d dice) step() impl.Step {
	names := []string{"a", "b", "c", "*", "_x.y-z", "body", "abcdefghijkl"}
	s := impl.Step{Deep: d.IntN(2) == 0, Name: names[min(d.IntN(14), d.IntN(7))]}
	if d.IntN(3) == 0 {
		s.Attr = []string{"a", "b", "c", "id", "A1", "abcdefghijkl"}[min(d.IntN(12), d.IntN(6))]
		s.Text = d.pick([]string{"a", "<", " ", "]", "/", "[", "=", "\"", "~", "&"}, 3)
	}
	return s
}

func (d dice) path() []impl.Step {
	var list []impl.Step
	for range 1 + d.IntN(5) {
		list = append(list, d.step())
	}
	return list
}

// brokenPath is a path with one thing changed, that may be none then.
func (d dice) brokenPath() []impl.Step {
	list := d.path()
	s := &list[d.IntN(len(list))]
	switch d.IntN(4) {
	case 0:
		s.Name = []string{"", "1", "**", "a b", "a", "/"}[d.IntN(6)]
	case 1:
		s.Attr = []string{"", "*", "k", "k='"}[d.IntN(4)]
	case 2:
		s.Text = []string{"'", "é", "", "\n", "01234567890", "0123456789"}[d.IntN(6)]
	case 3:
		list = append(list, d.path()...)
	}
	return list
}

// pathText is how a path is to be written.
func pathText(list []impl.Step) string {
	var out []string
	for _, s := range list {
		text := map[bool]string{true: "//", false: "/"}[s.Deep] + s.Name
		if s.Attr != "" {
			text += "[" + s.Attr + "='" + s.Text + "']"
		}
		out = append(out, text)
	}
	text := strings.Join(out, "")
	if !list[0].Deep {
		text = text[1:]
	}
	return text
}

// stepFits asks anew what a step must be.
func stepFits(s impl.Step) bool {
	if s.Name != "*" && !impl.NameOk(s.Name) || s.Attr == "" && s.Text != "" || s.Attr != "" && !impl.NameOk(s.Attr) {
		return false
	}
	apart := strings.IndexFunc(s.Text, func(r rune) bool { return r < ' ' || r > '~' || r == '\'' })
	return len(s.Text) <= 10 && apart < 0
}

func TestP59APathIsReadBack(t *testing.T) {
	d := newDice()
	read, long, wrong := 0, 0, 0
	for range 20000 {
		list := d.path()
		if d.IntN(3) == 0 {
			list = d.brokenPath()
		}
		text, want := impl.PathPut(list), len(list) <= 5 && !slices.ContainsFunc(list, func(s impl.Step) bool { return !stepFits(s) })
		if impl.PathOk(list) != want || (text != "") != want {
			t.Fatalf("PathPut(%+v) is %q, PathOk %v", list, text, impl.PathOk(list))
		}
		if !want {
			wrong++
			continue
		}
		got, ok := impl.PathGet(text)
		if text != pathText(list) || ok != (len(text) <= 160) || ok && !slices.Equal(got, list) {
			t.Fatalf("PathGet(%q), of %+v, is %+v, %v", text, list, got, ok)
		}
		if ok {
			read++
		} else {
			long++
		}
	}
	if read < 5000 || wrong < 2000 {
		t.Error(read, long, wrong)
	}
}

func TestP60WhatIsReadAsAPathIsWrittenJustSo(t *testing.T) {
	d := newDice()
	read, not := 0, 0
	for range 50000 {
		text := d.scratchedBy(pathText(d.path()), "/[]='*ab1 \xff")
		list, ok := impl.PathGet(text)
		if !ok {
			not++
			checkNoPath(t, text)
			continue
		}
		read++
		if !impl.PathOk(list) || impl.PathPut(list) != text || len(text) > 160 {
			t.Fatalf("PathGet(%q) is %+v", text, list)
		}
	}
	if read < 5000 || not < 5000 {
		t.Error(read, not)
	}
}

// Trees, paths, and the places of the elements to which these lead. Texts have places, too.
var findCases = []struct {
	tree  string
	paths map[string][]int
}{
	{"<a/>", map[string][]int{"a": {0}, "*": {0}, "//a": {0}, "//*": {0}, "b": nil, "//b": nil, "a/a": nil, "a//a": nil, "//a/a": nil, "//a//a": nil, "*/*": nil, "//*//*": nil, "A": nil}},
	// 0 a, 1 x, 2 b, 3 a, 4 y, 5 b, 6 c
	{"<a k='1'>x<b k='2'><a k='1'>y</a></b><b><c/></b></a>", map[string][]int{
		"a": {0}, "a/b": {2, 5}, "//a": {0, 3}, "a//*": {2, 3, 5, 6}, "//a[k='1']": {0, 3}, "b": nil, "//b//c": {6}, "*/b[k='2']/a": {3},
		"//*": {0, 2, 3, 5, 6}, "*": {0}, "*/*": {2, 5}, "*/*/*": {3, 6}, "*/*/*/*": nil, "//*/*": {2, 3, 5, 6}, "//*/*/*": {3, 6}, "//b": {2, 5}, "a/a": nil, "a//a": {3}, "//a//a": {3}, "//b/a": {3}, "//a/b": {2, 5}, "//b/*": {3, 6}, "//a/c": nil, "a//c": {6}, "//c//*": nil,
		"a[k='1']/b": {2, 5}, "a[k='2']/b": nil, "//*[k='2']": {2}, "//b[k='1']": nil, "//*[k='1']//*[k='2']//*[k='1']": {3}, "//*[k='1']": {0, 3}, "//b[j='2']": nil,
	}},
	// What is reached on two ways: 0 a, 1 a, 2 b, 3 b, 4 b
	{"<a><a><b><b/></b></a><b/></a>", map[string][]int{
		"//a//b": {2, 3, 4}, "//a/b": {2, 4}, "//a//b//b": {3}, "//a//a//b": {2, 3}, "//*//*": {1, 2, 3, 4}, "//*//*//*": {2, 3}, "//*//*//*//*": {3}, "//*//*//*//*//*": nil, "//*/*": {1, 2, 3, 4}, "a/a//b": {2, 3}, "a//b": {2, 3, 4}, "//a//b/b": {3}, "//b//b": {3}, "//a//*//b": {2, 3},
	}},
	// One that is ahead is in one that is deeper: 0 a, 1 a, 2 b, 3 c, 4 b, 5 c
	{"<a><a><b><c/></b></a><b><c/></b></a>", map[string][]int{"//a/b": {2, 4}, "//a/b/c": {3, 5}, "//a//c": {3, 5}, "a/b/c": {5}, "a/*/b/c": {3}, "//a/a/b": {2}}},
	// Texts between: 0 a, 1 x, 2 b, 3 y, 4 z, 5 b, 6 w
	{"<a>x<b>y</b>z<b/>w</a>", map[string][]int{"//*": {0, 2, 5}, "a/*": {2, 5}, "a//*": {2, 5}, "a/b/*": nil}},
	// DeepMax in each other, and StepMax steps.
	{"<a><b><c><d><e>x</e></d></c></b></a>", map[string][]int{"a/b/c/d/e": {4}, "*/*/*/*/*": {4}, "//a//b//c//d//e": {4}, "//*//*//*//*//*": {4}, "//e": {4}, "//*": {0, 1, 2, 3, 4}, "a//e": {4}, "//b/c//e": {4}, "a/c": nil, "//b/b": nil, "e//a": nil, "//c/*": {3}, "//*/*/*/*": {3, 4}}},
	// An attribute that says nothing is another thing than none.
	{"<a k=''><b/><b k=''/><b k='0'/><b j='' k='&lt;&amp;'/></a>", map[string][]int{"//*[k='']": {0, 2}, "//b[k='']": {2}, "//b[k='0']": {3}, "//b[k='<&']": {4}, "//b[k='&lt;&amp;']": nil, "//*[j='']": {4}, "//*[l='']": nil, "a[k='']/b[k='']": {2}}},
	{"<a k='0123456789'><b k='01234567890'/><b abcdefghijkl=' '/><b b='1' c='2' d='3'/></a>", map[string][]int{"//*[k='0123456789']": {0}, "//b[abcdefghijkl=' ']": {2}, "//b[b='1']": {3}, "//b[c='2']": {3}, "//b[d='3']": {3}, "//b[c='1']": nil, "//b[b='']": nil}},
	// A space is no attribute, and a name is the same in all spaces.
	{"<a xmlns='q'><b xmlns='r'/><b/></a>", map[string][]int{"//b": {1, 2}, "//*[xmlns='q']": nil, "//*[xmlns='r']": nil, "//*[xmlns='']": nil}},
}

func TestPathFind(t *testing.T) {
	for _, c := range findCases {
		tree, code := impl.TreeGet(c.tree)
		if code != impl.XmlFine {
			t.Fatal(c.tree, code)
		}
		for text, want := range c.paths {
			list, ok := impl.PathGet(text)
			if got := impl.PathFind(tree, list); !ok || !slices.Equal(got, want) {
				t.Errorf("%s in %s is %v, not %v", text, c.tree, got, want)
			}
		}
	}
}

// Of what is no tree nothing is found, though a path is one.
func TestPathFindInNoTree(t *testing.T) {
	for what, list := range wrongTrees() {
		for _, p := range [][]impl.Step{path(near("a")), path(deep("*")), path(deep("*"), near("*"))} {
			if got := impl.PathFind(list, p); len(got) > 0 {
				t.Errorf("%s: PathFind of %+v is %v", what, p, got)
			}
		}
		for k := range min(len(list), 4) {
			if got := impl.PathText(list, k); got != "" {
				t.Errorf("%s: PathText of %d is %.80q", what, k, got)
			}
		}
	}
}

// smallTree is a tree of few names, in which most paths lead somewhere.
func (d dice) smallTree() []impl.Node {
	for {
		list := d.tree()
		for i := range list {
			if list[i].Name != "" {
				list[i].Name = []string{"a", "b", "c", "_x.y-z"}[min(d.IntN(8), d.IntN(4))]
			}
			for k := range list[i].Attrs {
				list[i].Attrs[k].Text = d.pick([]string{"a", "<", " ", "]"}, 2)
			}
		}
		if impl.TreeOk(list) {
			return list
		}
	}
}

// pathIn is a path that leads to an element of a small tree, from the elements that it is in.
func (d dice) pathIn(tree []impl.Node) []impl.Step {
	k := d.IntN(len(tree))
	for tree[k].Name == "" {
		k = d.IntN(len(tree))
	}
	var list []impl.Step
	for ; k >= 0; k = tree[k].Up {
		// Behind what is left out there must be a step at any depth.
		if len(list) > 0 && list[0].Deep && d.IntN(3) == 0 {
			continue
		}
		n, s := tree[k], impl.Step{Deep: d.IntN(2) == 0, Name: tree[k].Name}
		if d.IntN(4) == 0 {
			s.Name = "*"
		}
		if len(n.Attrs) > 0 && d.IntN(2) == 0 {
			a := n.Attrs[d.IntN(len(n.Attrs))]
			s.Attr, s.Text = a.Name, a.Text
		}
		list = append(path(s), list...)
	}
	return list
}

// isIn says whether a node is in another one, at once or however deep.
func isIn(tree []impl.Node, k, up int, deep bool) bool {
	for k = tree[k].Up; k != up; k = tree[k].Up {
		if k < 0 || !deep {
			return false
		}
	}
	return true
}

// leads says whether a path leads to a node, asked from its last step on.
func leads(tree []impl.Node, list []impl.Step, k int) bool {
	n, s, ahead := tree[k], list[len(list)-1], list[:len(list)-1]
	hasAttr := s.Attr == "" || slices.Contains(n.Attrs, impl.Attr{Name: s.Attr, Text: s.Text})
	if n.Name == "" || s.Name != "*" && s.Name != n.Name || !hasAttr {
		return false
	}
	if len(ahead) == 0 {
		return s.Deep || k == 0
	}
	for up := range tree {
		if isIn(tree, k, up, s.Deep) && leads(tree, ahead, up) {
			return true
		}
	}
	return false
}

func found(tree []impl.Node, list []impl.Step) []int {
	var out []int
	for k := range tree {
		if leads(tree, list, k) {
			out = append(out, k)
		}
	}
	return out
}

func hasAll(list, of []int) bool {
	return !slices.ContainsFunc(of, func(k int) bool { return !slices.Contains(list, k) })
}

func TestP61APathLeadsToElements(t *testing.T) {
	d := newDice()
	some, none := 0, 0
	for range 6000 {
		tree, list := d.smallTree(), d.path()
		sure := d.IntN(2) == 0
		if sure {
			list = d.pathIn(tree)
		}
		got := impl.PathFind(tree, list)
		if sure && len(got) == 0 {
			t.Fatalf("%s in %s is nothing", pathText(list), impl.TreePut(tree))
		}
		if want := found(tree, list); !slices.Equal(got, want) {
			t.Fatalf("%s in %s is %v, not %v", pathText(list), impl.TreePut(tree), got, want)
		}
		if len(got) > 0 {
			some++
		} else {
			none++
		}
		for i, k := range got {
			if tree[k].Name == "" || i > 0 && got[i-1] >= k {
				t.Fatalf("%s in %s is %v", pathText(list), impl.TreePut(tree), got)
			}
		}
		for _, change := range []func(s *impl.Step){
			func(s *impl.Step) { s.Deep = true }, func(s *impl.Step) { s.Name = "*" }, func(s *impl.Step) { s.Attr, s.Text = "", "" },
		} {
			wide := slices.Clone(list)
			change(&wide[d.IntN(len(wide))])
			if more := impl.PathFind(tree, wide); !hasAll(more, got) {
				t.Fatalf("%s in %s is %v, %s is %v", pathText(list), impl.TreePut(tree), got, pathText(wide), more)
			}
		}
	}
	if some < 2400 || none < 900 {
		t.Error(some, none)
	}
}

func TestP62AStarAtAnyDepthIsAllElements(t *testing.T) {
	d := newDice()
	for range 3000 {
		tree := d.tree()
		if !impl.TreeOk(tree) {
			continue
		}
		var elements []int
		var texts strings.Builder
		for k, n := range tree {
			if n.Name != "" {
				elements = append(elements, k)
			}
			texts.WriteString(n.Text)
		}
		if got := impl.PathFind(tree, path(deep("*"))); !slices.Equal(got, elements) {
			t.Fatalf("//* in %s is %v", impl.TreePut(tree), got)
		}
		if got := impl.PathFind(tree, path(near(tree[0].Name))); !slices.Equal(got, []int{0}) {
			t.Fatalf("%s in %s is %v", tree[0].Name, impl.TreePut(tree), got)
		}
		if got := impl.PathText(tree, 0); got != texts.String() {
			t.Fatalf("PathText of %s is %q", impl.TreePut(tree), got)
		}
	}
}

func TestP63TheTextOfAnElementIsAllWithin(t *testing.T) {
	d := newDice()
	for range 1000 {
		tree := d.tree()
		if !impl.TreeOk(tree) {
			continue
		}
		for k, n := range tree {
			want := n.Text
			for i, inner := range tree {
				if inner.Up == k {
					want += impl.PathText(tree, i)
				}
			}
			if got := impl.PathText(tree, k); got != want {
				t.Fatalf("PathText of %d of %s is %q, not %q", k, impl.TreePut(tree), got, want)
			}
		}
	}
}

func TestPathText(t *testing.T) {
	tree, _ := impl.TreeGet("<a k='no'>1&lt;<b>2<c>3</c><c/>4</b><d/>5<b>6</b></a>")
	// 0 a, 1 1<, 2 b, 3 2, 4 c, 5 3, 6 c, 7 4, 8 d, 9 5, 10 b, 11 6
	for k, want := range []string{"1<23456", "1<", "234", "2", "3", "3", "", "4", "", "5", "6", "6"} {
		if got := impl.PathText(tree, k); got != want {
			t.Errorf("PathText of %d is %q, not %q", k, got, want)
		}
	}
	for _, k := range []int{-1, -2, 12, 13, math.MinInt, math.MaxInt} {
		if got := impl.PathText(tree, k); got != "" {
			t.Errorf("PathText of %d is %q", k, got)
		}
	}
	full := []impl.Node{{Up: -1, Name: "a"}, {Up: 0, Text: strings.Repeat("x", 693)}}
	if got := impl.PathText(full, 0); got != full[1].Text || impl.PathText(full, 1) != full[1].Text {
		t.Error(len(got))
	}
}

func TestPathSharesNoMemory(t *testing.T) {
	text := strings.Clone("a[k='1']//b[k='2']/c")
	list, _ := impl.PathGet(text)
	for _, s := range list {
		checkOwn(t, text, s.Name, s.Attr, s.Text)
	}
	room := append(slices.Clone(list), near("mark"))
	tree, _ := impl.TreeGet("<a k='1'>some text<b k='2'>more<c/></b><c/></a>")
	was := cloneTree(tree)
	first := impl.PathFind(tree, room[:3])
	want := slices.Clone(first)
	for i := range first[:cap(first)] {
		first[:cap(first)][i] = -7
	}
	if again := impl.PathFind(tree, room[:3]); !slices.Equal(again, want) || len(want) != 1 {
		t.Error("two answers share memory", again, want)
	}
	for k := range tree {
		for _, n := range tree {
			checkOwn(t, n.Text, impl.PathText(tree, k))
		}
	}
	if impl.PathPut(room[:3]) != text || !impl.PathOk(room[:3]) || !slices.Equal(room[:3], list) || room[3] != near("mark") || !sameTree(tree, was) {
		t.Error("something was written into an argument", room, tree)
	}
	one := path(near("element"))
	checkOwn(t, one[0].Name, impl.PathPut(one))
	again, _ := impl.PathGet(text)
	for i := range list[:cap(list)] {
		list[:cap(list)][i] = near("changed")
	}
	if impl.PathPut(again) != text {
		t.Error("two answers share memory", again)
	}
}
