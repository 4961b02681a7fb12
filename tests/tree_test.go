package tests

import (
	"slices"
	"strconv"
	"strings"
	"testing"

	"loop.example/hubbub/impl"
)

// The codes and limits are the document's: other tests take them by name.
func TestTreeNumbers(t *testing.T) {
	codes := [4]int{impl.XmlFine, impl.XmlMore, impl.XmlBad, impl.XmlBig}
	limits := [5]int{impl.NameMax, impl.AttrMax, impl.NodeMax, impl.DeepMax, impl.TreeMax}
	if codes != [4]int{0, 1, 2, 3} || limits != [5]int{12, 8, 24, 5, 700} {
		t.Error(codes, limits)
	}
}

func TestNameOk(t *testing.T) {
	for _, s := range []string{"a", "z", "A", "Z", "_", "a0", "a9", "a-", "a.", "a_", "_1", "abcdefghijkl", "a-b.c_d0E9Zz"} {
		if !impl.NameOk(s) {
			t.Errorf("NameOk(%q) is false", s)
		}
	}
	for _, s := range []string{"", "1", "-", ".", "-a", ".a", "9a", "abcdefghijklm", "a b", " a", "a ", "a:b", "a\n", "é", "a\xc3\xa9", "a\x00", "a/", "a="} {
		if impl.NameOk(s) {
			t.Errorf("NameOk(%q) is true", s)
		}
	}
	for c := range 256 {
		letter := 'a' <= c && c <= 'z' || 'A' <= c && c <= 'Z' || c == '_'
		within := letter || '0' <= c && c <= '9' || c == '-' || c == '.'
		s := string([]byte{byte(c)})
		if impl.NameOk(s) != letter || impl.NameOk("a"+s) != within || impl.NameOk("a"+s+"b") != within {
			t.Errorf("NameOk with the byte %d", c)
		}
	}
}

func attrs(pairs ...string) []impl.Attr {
	var list []impl.Attr
	for i := 0; i < len(pairs); i += 2 {
		list = append(list, impl.Attr{Name: pairs[i], Text: pairs[i+1]})
	}
	return list
}

// What is read, and how it is written.
var treeCases = []struct {
	text string
	list []impl.Node
	put  string
}{
	{"<a/>", []impl.Node{{Up: -1, Name: "a"}}, "<a/>"},
	{"<a></a>", []impl.Node{{Up: -1, Name: "a"}}, "<a/>"},
	{"<a \t\n/>", []impl.Node{{Up: -1, Name: "a"}}, "<a/>"},
	{"<a \t\n></a \t\n>", []impl.Node{{Up: -1, Name: "a"}}, "<a/>"},
	{"<a>x</a>", []impl.Node{{Up: -1, Name: "a"}, {Up: 0, Text: "x"}}, "<a>x</a>"},
	{"<a> </a>", []impl.Node{{Up: -1, Name: "a"}, {Up: 0, Text: " "}}, "<a> </a>"},
	{"<a>\n\t</a>", []impl.Node{{Up: -1, Name: "a"}, {Up: 0, Text: "\n\t"}}, "<a>&#10;&#9;</a>"},
	{"<a>>'\"&#60;é</a>", []impl.Node{{Up: -1, Name: "a"}, {Up: 0, Text: ">'\"<é"}}, "<a>&gt;&apos;&quot;&lt;é</a>"},
	{"<a>x&#65;y&#0000066;</a>", []impl.Node{{Up: -1, Name: "a"}, {Up: 0, Text: "xAyB"}}, "<a>xAyB</a>"},
	{"<a\nb\n=\t'1'\n\nc= \"2\"/>", []impl.Node{{Up: -1, Name: "a", Attrs: attrs("b", "1", "c", "2")}}, "<a b='1' c='2'/>"},
	{"<a z='1' B='2' b='3' a='4' a1='5'/>", []impl.Node{{Up: -1, Name: "a", Attrs: attrs("B", "2", "a", "4", "a1", "5", "b", "3", "z", "1")}}, "<a B='2' a='4' a1='5' b='3' z='1'/>"},
	{"<a b='' c=\"'\" d='\"' e='\n\t>'/>", []impl.Node{{Up: -1, Name: "a", Attrs: attrs("b", "", "c", "'", "d", "\"", "e", "\n\t>")}}, "<a b='' c='&apos;' d='&quot;' e='&#10;&#9;&gt;'/>"},
	{"<a b='&quot;&apos;&lt;'/>", []impl.Node{{Up: -1, Name: "a", Attrs: attrs("b", "\"'<")}}, "<a b='&quot;&apos;&lt;'/>"},
	{"<a xmlns=''/>", []impl.Node{{Up: -1, Name: "a"}}, "<a/>"},
	{"<a b='1' xmlns=\"q\" c='2'/>", []impl.Node{{Up: -1, Name: "a", Space: "q", Attrs: attrs("b", "1", "c", "2")}}, "<a xmlns='q' b='1' c='2'/>"},
	{"<a xmlns='&lt;&#10;'/>", []impl.Node{{Up: -1, Name: "a", Space: "<\n"}}, "<a xmlns='&lt;&#10;'/>"},
	{"<a xmlns='q'>t<b/></a>", []impl.Node{{Up: -1, Name: "a", Space: "q"}, {Up: 0, Text: "t"}, {Up: 0, Name: "b", Space: "q"}}, "<a xmlns='q'>t<b/></a>"},
	{"<a xmlns='q'><b xmlns='q'/></a>", []impl.Node{{Up: -1, Name: "a", Space: "q"}, {Up: 0, Name: "b", Space: "q"}}, "<a xmlns='q'><b/></a>"},
	{"<a><b xmlns=''/></a>", []impl.Node{{Up: -1, Name: "a"}, {Up: 0, Name: "b"}}, "<a><b/></a>"},
	{
		"<a xmlns='q'><b xmlns='r'><c xmlns='q'/><d/></b><e/><f xmlns=''><g/></f></a>",
		[]impl.Node{{Up: -1, Name: "a", Space: "q"}, {Up: 0, Name: "b", Space: "r"}, {Up: 1, Name: "c", Space: "q"}, {Up: 1, Name: "d", Space: "r"}, {Up: 0, Name: "e", Space: "q"}, {Up: 0, Name: "f"}, {Up: 5, Name: "g"}},
		"<a xmlns='q'><b xmlns='r'><c xmlns='q'/><d/></b><e/><f xmlns=''><g/></f></a>",
	},
	{
		"<a>1<a>2<a>3</a></a>4<a/>5</a>",
		[]impl.Node{{Up: -1, Name: "a"}, {Up: 0, Text: "1"}, {Up: 0, Name: "a"}, {Up: 2, Text: "2"}, {Up: 2, Name: "a"}, {Up: 4, Text: "3"}, {Up: 0, Text: "4"}, {Up: 0, Name: "a"}, {Up: 0, Text: "5"}},
		"<a>1<a>2<a>3</a></a>4<a/>5</a>",
	},
	{
		"<abcdefghijkl lkjihgfedcba='1'></abcdefghijkl>",
		[]impl.Node{{Up: -1, Name: "abcdefghijkl", Attrs: attrs("lkjihgfedcba", "1")}},
		"<abcdefghijkl lkjihgfedcba='1'/>",
	},
}

func TestTreeReadAndWritten(t *testing.T) {
	for _, c := range treeCases {
		list, code := impl.TreeGet(c.text)
		if code != impl.XmlFine || !sameTree(list, c.list) {
			t.Errorf("TreeGet(%q) is %v, %d", c.text, list, code)
		}
		if got := impl.TreePut(c.list); got != c.put || !impl.TreeOk(c.list) {
			t.Errorf("TreePut of %q is %q, TreeOk %v", c.text, got, impl.TreeOk(c.list))
		}
	}
}

// children is so many elements of one name.
func children(n int) string {
	return strings.Repeat("<b/>", n)
}

// someAttrs is so many attributes, a blank ahead of each.
func someAttrs(n int) string {
	s := ""
	for i := range n {
		s += " a" + strconv.Itoa(i) + "='1'"
	}
	return s
}

var bad, big = impl.XmlBad, impl.XmlBig

// Texts whose last byte is the first with which reading cannot go on.
var stops = []struct {
	text string
	code int
}{
	{"a", bad}, {" ", bad}, {"\n", bad}, {">", bad}, {"&", bad}, {"\x00", bad}, {"\xc3", bad}, {"\xef", bad},
	{"<1", bad}, {"<-", bad}, {"<.", bad}, {"< ", bad}, {"<<", bad}, {"<>", bad}, {"</", bad}, {"<!", bad}, {"<?", bad}, {"<&", bad}, {"<'", bad}, {"<\xc3", bad}, {"<\xff", bad},
	{"<abcdefghijklm", bad}, {"<a:", bad}, {"<a&", bad}, {"<a<", bad}, {"<a=", bad}, {"<a'", bad}, {"<a\xc3", bad}, {"<a\r", bad},
	{"<a//", bad}, {"<a/ ", bad}, {"<a/a", bad}, {"<a />>", bad}, {"<a/> ", bad}, {"<a/>\xff", bad}, {"<a></a><", bad},
	{"<a 1", bad}, {"<a =", bad}, {"<a '", bad}, {"<a -", bad}, {"<a <", bad}, {"<a &", bad},
	{"<a b>", bad}, {"<a b/", bad}, {"<a b c", bad}, {"<a b'", bad}, {"<a abcdefghijklm", bad}, {"<a b==", bad}, {"<a b=1", bad}, {"<a b= b", bad}, {"<a b=>", bad}, {"<a b=/", bad}, {"<a b=&", bad},
	{"<a b='<", bad}, {"<a b=\"<", bad}, {"<a b='\r", bad}, {"<a b='\x00", bad}, {"<a b='\xff", bad}, {"<a b='\xc3'", bad}, {"<a b='&'", bad}, {"<a b='&;", bad}, {"<a b='&lt'", bad},
	{"<a b='1'c", bad}, {"<a b='1''", bad}, {"<a b='1'=", bad}, {"<a b=\"1\"\"", bad},
	{"<a b='1' b='2'", bad}, {"<a b='' b=''", bad}, {"<a b='1' c='2' b=\"1\"", bad}, {"<a xmlns='1' xmlns='1'", bad}, {"<a xmlns='' xmlns=''", bad}, {"<a xmlns='1' b='2' xmlns='3'", bad},
	{"<a" + someAttrs(impl.AttrMax) + " b='1'", bad}, {"<a" + someAttrs(impl.AttrMax) + " a0='1'", bad}, {"<a xmlns='q'" + someAttrs(impl.AttrMax) + " b='1'", bad},
	{"<a></1", bad}, {"<a></ ", bad}, {"<a></>", bad}, {"<a><//", bad}, {"<a></b>", bad}, {"<a></b ", bad}, {"<a></ab>", bad}, {"<ab></a>", bad}, {"<ab></a/", bad}, {"<a></A>", bad}, {"<a></b\xff", bad}, {"<a></abcdefghijklm", bad}, {"<a></a/", bad}, {"<a></a a", bad}, {"<a></a =", bad}, {"<a></a<", bad},
	{"<a><b></a>", bad}, {"<a><b/></b>", bad},
	{"<a><1", bad}, {"<a>< ", bad}, {"<a><<", bad}, {"<a><!", bad}, {"<a><?", bad}, {"<a><>", bad},
	{"<a>\x00", bad}, {"<a>\x08", bad}, {"<a>\x0b", bad}, {"<a>\x0c", bad}, {"<a>\r", bad}, {"<a>\x1f", bad}, {"<a>x\x00", bad},
	{"<a>\x80", bad}, {"<a>\xbf", bad}, {"<a>\xc0", bad}, {"<a>\xc1", bad}, {"<a>\xf5", bad}, {"<a>\xf8", bad}, {"<a>\xfe", bad}, {"<a>\xff", bad},
	{"<a>\xc3a", bad}, {"<a>\xc3<", bad}, {"<a>\xc3\xc3", bad}, {"<a>\xe2\x82<", bad}, {"<a>\xf0\x9f\x98<", bad},
	{"<a>\xe0\x80", bad}, {"<a>\xe0\x9f", bad}, {"<a>\xf0\x80", bad}, {"<a>\xf0\x8f", bad}, {"<a>\xed\xa0", bad}, {"<a>\xed\xbf", bad}, {"<a>\xf4\x90", bad}, {"<a>\xef\xbf\xbe", bad}, {"<a>\xef\xbf\xbf", bad}, {"<a>é\xa9", bad},
	{"<a>& ", bad}, {"<a>&<", bad}, {"<a>&&", bad}, {"<a>&G", bad}, {"<a>&Z", bad}, {"<a>&#X", bad}, {"<a>&#-", bad}, {"<a>&_", bad}, {"<a>&\xc3", bad}, {"<a>&\n", bad}, {"<a>&:", bad}, {"<a>&/", bad}, {"<a>&`", bad}, {"<a>&{", bad}, {"<a>&@", bad}, {"<a>&\"", bad},
	{"<a>&;", bad}, {"<a>&a;", bad}, {"<a>&am;", bad}, {"<a>&ampp;", bad}, {"<a>&zz;", bad}, {"<a>&A;", bad}, {"<a>&#;", bad}, {"<a>&#x;", bad}, {"<a>&##;", bad}, {"<a>&#0;", bad}, {"<a>&#13;", bad}, {"<a>&#31;", bad}, {"<a>&#xD800;", bad}, {"<a>&#xDFFF;", bad}, {"<a>&#xFFFE;", bad}, {"<a>&#1114112;", bad}, {"<a>&#x110000;", bad}, {"<a>&#g;", bad}, {"<a>&#A;", bad}, {"<a>&lt#;", bad},
	{"<a>&aaaaaaaaa", bad}, {"<a>&#00000065", bad}, {"<a>&#x0000041", bad}, {"<a>&#########", bad}, {"<a>x&aaaaaaaaa", bad}, {"<a b='&aaaaaaaaa", bad}, {"<a>&aaaaaaaa;", bad},
	{"<a><a><a><a><a><a", big}, {"<a><a><a><a><a>x<a", big}, {"<a><a><a><a><a><!", big}, {"<a><a><a><a><a><1", big}, {"<a><a><a><a><a><\xff", big}, {"<a><a><a><a><a><<", big}, {"<a><a><a><a><a>< ", big},
	{"<a><a><a><a><a></b>", bad}, {"<a><a><a><a><a></ ", bad}, {"<a><b><c><d><e/><e></e><e><f", big},
	{"<a>" + children(impl.NodeMax-1) + "<b>", big}, {"<a>" + children(impl.NodeMax-1) + "<b/", big}, {"<a>" + children(impl.NodeMax-1) + "<b c='1' /", big},
	{"<a>" + children(impl.NodeMax-1) + "x<", big}, {"<a>" + children(impl.NodeMax-1) + " <", big}, {"<a>" + children(impl.NodeMax-2) + "x<b/", big}, {"<a>" + children(impl.NodeMax-2) + "<b>x<", big},
	{"<a>" + children(impl.NodeMax-1) + "<b c='1' c='2'", bad}, {"<a>" + children(impl.NodeMax-1) + "x&;", bad}, {"<a>" + children(impl.NodeMax-1) + "<1", bad}, {"<a>" + children(impl.NodeMax-1) + "</b>", bad},
}

func TestWhereReadingStops(t *testing.T) {
	for _, c := range stops {
		list, code := impl.TreeGet(c.text)
		if code != c.code || len(list) != 0 {
			t.Errorf("TreeGet(%q) is %v, %d, not %d", c.text, list, code, c.code)
		}
		ahead := c.text[:len(c.text)-1]
		want := impl.XmlMore
		if strings.HasSuffix(ahead, "/>") && strings.Count(ahead, "<") == 1 || ahead == "<a></a>" {
			want = impl.XmlFine
		}
		if _, code := impl.TreeGet(ahead); code != want {
			t.Errorf("TreeGet(%q) is %d, not %d", ahead, code, want)
		}
		for _, more := range []string{"x", "/>", "></a>", "\xff", "<", strings.Repeat("y", impl.TreeMax)} {
			if _, code := impl.TreeGet(c.text + more); code != c.code {
				t.Errorf("TreeGet(%q) is %d, not %d", c.text+more, code, c.code)
			}
		}
	}
}

// Texts with which reading could go on, though some of them never come to an end.
func TestReadingWaits(t *testing.T) {
	waits := []string{
		"", "<", "<a", "<abcdefghijkl", "<a ", "<a /", "<a b", "<a b ", "<a b =", "<a b = ", "<a b='", "<a b=\"'", "<a b='\"", "<a b='1'", "<a b='1' ", "<a b='1' b='2", "<a xmlns='1' xmlns='2",
		"<a>", "<a>x", "<a> ", "<a><", "<a></", "<a></a", "<a></a ", "<a></b", "<a></abcdefghijkl", "<a></ab", "<ab></a",
		"<a>&", "<a>&a", "<a>&amp", "<a>&zz", "<a>&zzzzzzzz", "<a>&#", "<a>&##", "<a>&#x", "<a>&#0000065", "<a>&#x000041", "<a>&ABCDEF01", "<a>&F", "<a>&#99999", "<a b='&#xD800",
		"<a>\xc2", "<a>\xdf", "<a>\xe0", "<a>\xe0\xa0", "<a>\xed", "<a>\xed\x9f", "<a>\xee", "<a>\xef\xbf", "<a>\xef\xb7", "<a>\xf0", "<a>\xf0\x90", "<a>\xf0\x9f\xbf", "<a>\xf4", "<a>\xf4\x8f", "<a>\xf4\x8f\xbf", "<a b='\xe2\x82",
		"<a><a><a><a><a><", "<a><a><a><a><a></", "<a><a><a><a><a/><", "<a><a><a><a><a></a><a",
		"<a>" + children(impl.NodeMax-1) + "<b", "<a>" + children(impl.NodeMax-1) + "<b c='1' ", "<a>" + children(impl.NodeMax-1) + "x", "<a>" + children(impl.NodeMax-1) + "<", "<a>" + children(impl.NodeMax-1) + "</",
		"<a" + someAttrs(impl.AttrMax) + " b='1",
	}
	for _, s := range waits {
		if list, code := impl.TreeGet(s); code != impl.XmlMore || len(list) != 0 {
			t.Errorf("TreeGet(%q) is %v, %d", s, list, code)
		}
	}
}

func TestTreeLimits(t *testing.T) {
	fine := []string{
		"<a" + someAttrs(impl.AttrMax) + "/>",
		"<a xmlns='q'" + someAttrs(impl.AttrMax) + "/>",
		"<a" + someAttrs(impl.AttrMax) + " xmlns='q'/>",
		"<a>" + children(impl.NodeMax-1) + "</a>",
		"<a>" + children(impl.NodeMax-2) + "x</a>",
		"<a>x" + children(impl.NodeMax-2) + "</a>",
		"<a><a><a><a><a/></a></a></a></a>",
		"<a><a><a><a><a>x</a><a></a></a></a></a></a>",
		"<a>" + strings.Repeat("x", impl.TreeMax-7) + "</a>",
		"<a" + strings.Repeat(" ", impl.TreeMax-4) + "/>",
		"<a></a" + strings.Repeat("\n", impl.TreeMax-7) + ">",
		"<a>" + strings.Repeat(">", 173) + "x</a>",
		"<a b='" + strings.Repeat("\"", 115) + "x'/>",
	}
	for _, s := range fine {
		list, code := impl.TreeGet(s)
		if code != impl.XmlFine || !impl.TreeOk(list) {
			t.Errorf("TreeGet(%q) is %d", s, code)
		}
	}
	tooBig := []string{
		"<a>" + strings.Repeat("x", impl.TreeMax-6) + "</a>",
		"<a" + strings.Repeat(" ", impl.TreeMax-3) + "/>",
		"<a>" + strings.Repeat("x", impl.TreeMax-2),
		"<a>" + strings.Repeat("x", impl.TreeMax-3) + "\xff",
		"<a>" + strings.Repeat("x", impl.TreeMax-4) + "é",
		"<a>" + strings.Repeat("x", 100*impl.TreeMax),
		"<a>" + strings.Repeat(">", 173) + "xx</a>",
		"<a>" + strings.Repeat(">", 174) + "</a>",
		"<a>" + strings.Repeat("\n", 140) + "</a>",
		"<a b='" + strings.Repeat("\"", 116) + "'/>",
	}
	for _, s := range tooBig {
		if list, code := impl.TreeGet(s); code != big || len(list) != 0 {
			t.Errorf("TreeGet(%q) is %v, %d", s, list, code)
		}
	}
	codes := map[string]int{
		"<a>" + strings.Repeat("x", impl.TreeMax-3):                impl.XmlMore,
		"<a>" + strings.Repeat("x", impl.TreeMax-4) + "\xc3":       impl.XmlMore,
		"<a>" + strings.Repeat("x", impl.TreeMax-4) + "\xff" + "x": bad,
		"<a>" + strings.Repeat("x", impl.TreeMax-7) + "</a> ":      bad,
		"<a>" + strings.Repeat("x", impl.TreeMax-7) + "</b>":       bad,
		"<a>" + strings.Repeat(">", 174) + "</a> ":                 bad,
		"<a/>" + strings.Repeat("x", 2*impl.TreeMax):               bad,
		"<a><a><a><a><a><a" + strings.Repeat("x", 2*impl.TreeMax):  big,
		"<a>&zz;" + strings.Repeat("x", 2*impl.TreeMax) + "</a>":   bad,
		"<a b='" + strings.Repeat("x", impl.TreeMax-6):             impl.XmlMore,
		"<a b='" + strings.Repeat("x", impl.TreeMax-5):             big,
		"<a>" + children(impl.NodeMax) + strings.Repeat(" ", 1000): big,
		strings.Repeat(" ", 2*impl.TreeMax):                        bad,
		"<a xmlns='q'" + someAttrs(impl.AttrMax) + " xmlns='r'":    bad,
		"<a xmlns='q'" + someAttrs(impl.AttrMax) + " xmlns='r'/>":  bad,
		"<a" + someAttrs(impl.AttrMax+1) + "/>":                    bad,
		"<a>" + children(impl.NodeMax) + "</a>":                    big,
		"<a>" + children(impl.NodeMax-1) + "x</a>":                 big,
		"<a><a><a><a><a><a/></a></a></a></a></a>":                  big,
		"<abcdefghijklm/>":       bad,
		"<a abcdefghijklm='1'/>": bad,
		"<a>" + strings.Repeat("x", impl.TreeMax-7) + "</a" + "\n>": big,
	}
	for s, want := range codes {
		if list, code := impl.TreeGet(s); code != want || len(list) != 0 {
			t.Errorf("TreeGet(%q) is %v, %d, not %d", s, list, code, want)
		}
	}
}

// wrongTrees is nodes that cannot be written, by what is wrong.
func wrongTrees() map[string][]impl.Node {
	el := func(up int, name string) impl.Node { return impl.Node{Up: up, Name: name} }
	text := func(up int, s string) impl.Node { return impl.Node{Up: up, Text: s} }
	root := el(-1, "a")
	chain := []impl.Node{root}
	for i := range 100000 {
		chain = append(chain, el(i, "a"))
	}
	return map[string][]impl.Node{
		"a long chain":         chain,
		"none":                 nil,
		"empty":                {},
		"text alone":           {text(-1, "x")},
		"nothing alone":        {{}},
		"first is in itself":   {el(0, "a")},
		"first is in another":  {el(-2, "a")},
		"up far away":          {root, el(1000000, "b")},
		"up below":             {root, el(-5, "b")},
		"two first ones":       {root, el(-1, "b")},
		"in itself":            {root, el(1, "b")},
		"in one behind":        {root, el(2, "b"), el(0, "c")},
		"in a text":            {root, text(0, "x"), el(1, "b")},
		"text in a text":       {root, text(0, "x"), text(1, "y")},
		"behind its element":   {root, el(0, "b"), el(0, "c"), el(1, "d")},
		"text twice":           {root, text(0, "x"), text(0, "y")},
		"empty text":           {root, text(0, "")},
		"bad text":             {root, text(0, "\xff")},
		"text of 13":           {root, text(0, "a\rb")},
		"bad space":            {{Up: -1, Name: "a", Space: "\xff"}},
		"bad name":             {el(-1, "1")},
		"blank in a name":      {el(-1, "a b")},
		"a name that is marks": {el(-1, "a/><b")},
		"a name with an attr":  {el(-1, "a b='1'")},
		"long name":            {el(-1, "abcdefghijklm")},
		"element with text":    {{Up: -1, Name: "a", Text: "x"}},
		"text with space":      {root, {Up: 0, Space: "q", Text: "x"}},
		"text with attrs":      {root, {Up: 0, Text: "x", Attrs: attrs("b", "1")}},
		"attrs not in order":   {{Up: -1, Name: "a", Attrs: attrs("c", "1", "b", "2")}},
		"attr twice":           {{Up: -1, Name: "a", Attrs: attrs("b", "1", "b", "1")}},
		"attr without name":    {{Up: -1, Name: "a", Attrs: attrs("", "1")}},
		"bad attr name":        {{Up: -1, Name: "a", Attrs: attrs("b c", "1")}},
		"long attr name":       {{Up: -1, Name: "a", Attrs: attrs("abcdefghijklm", "1")}},
		"marks as attr name":   {{Up: -1, Name: "a", Attrs: attrs("b='1' c", "1")}},
		"bad attr text":        {{Up: -1, Name: "a", Attrs: attrs("b", "\xc3")}},
		"xmlns as attr":        {{Up: -1, Name: "a", Attrs: attrs("xmlns", "")}},
		"xmlns as attr, told":  {{Up: -1, Name: "a", Attrs: attrs("xmlns", "q")}},
		"xmlns of its space":   {{Up: -1, Name: "a", Space: "q", Attrs: attrs("xmlns", "q")}},
		"nine attrs":           {{Up: -1, Name: "a", Attrs: attrs("a", "", "b", "", "c", "", "d", "", "e", "", "f", "", "g", "", "h", "", "i", "")}},
		"six deep":             {root, el(0, "a"), el(1, "a"), el(2, "a"), el(3, "a"), el(4, "a")},
		"701 bytes":            {root, text(0, strings.Repeat("x", impl.TreeMax-6))},
		"long when escaped":    {root, text(0, strings.Repeat("&", 139))},
		"very long":            {root, text(0, strings.Repeat("x", 1<<20))},
		"25 nodes":             append([]impl.Node{root}, slices.Repeat([]impl.Node{el(0, "b")}, impl.NodeMax)...),
		"many nodes":           append([]impl.Node{root}, slices.Repeat([]impl.Node{el(0, "b")}, 100000)...),
	}
}

func TestTreeNotOk(t *testing.T) {
	for what, list := range wrongTrees() {
		if impl.TreeOk(list) || impl.TreePut(list) != "" {
			t.Errorf("%s: TreePut is %.80q", what, impl.TreePut(list))
		}
	}
}

func TestTreeOkAtLimits(t *testing.T) {
	root := impl.Node{Up: -1, Name: "a"}
	right := map[string][]impl.Node{
		"eight attrs":           {{Up: -1, Name: "a", Attrs: attrs("a", "", "b", "", "c", "", "d", "", "e", "", "f", "", "g", "", "h", "")}},
		"eight attrs and space": {{Up: -1, Name: "a", Space: "q", Attrs: attrs("a", "", "b", "", "c", "", "d", "", "e", "", "f", "", "g", "", "h", "")}},
		"five deep":             {root, {Up: 0, Name: "a"}, {Up: 1, Name: "a"}, {Up: 2, Name: "a"}, {Up: 3, Name: "a"}, {Up: 4, Text: "x"}},
		"700 bytes":             {root, {Up: 0, Text: strings.Repeat("x", impl.TreeMax-7)}},
		"24 nodes":              append([]impl.Node{root}, slices.Repeat([]impl.Node{{Up: 0, Name: "b"}}, impl.NodeMax-1)...),
		"empty attrs":           {{Up: -1, Name: "a", Attrs: []impl.Attr{}}},
	}
	for what, list := range right {
		if !impl.TreeOk(list) || impl.TreePut(list) == "" {
			t.Errorf("%s: not ok", what)
		}
	}
}

// brokenTree changes one thing of a tree, which may or may not still be one.
func brokenTree(d dice, list []impl.Node) []impl.Node {
	list = cloneTree(list)
	at := d.IntN(len(list))
	n := &list[at]
	switch d.IntN(7) {
	case 0:
		n.Up += d.IntN(5) - 2
	case 1:
		n.Name = d.pick([]string{"", "a", "1", "b-", " ", "abcdef"}, 3)
	case 2:
		n.Text = d.pick([]string{"", "x", "<", "\xff", "\r"}, 2)
	case 3:
		n.Space = d.pick([]string{"", "q", "\xff"}, 2)
	case 4:
		n.Attrs = append(n.Attrs, impl.Attr{Name: d.name(), Text: d.pick([]string{"x", "\xc3", "&"}, 1)})
	case 5:
		list = slices.Insert(list, at, impl.Node{Up: d.IntN(3) - 1, Text: "x"})
	case 6:
		list = slices.Delete(list, at, at+1)
	}
	return list
}

func TestP6TreeIsReadBack(t *testing.T) {
	d := newDice()
	fine, wrong := 0, 0
	for range 3000 {
		list := d.tree()
		if d.IntN(2) == 0 {
			list = brokenTree(d, list)
		}
		s := impl.TreePut(list)
		if (s != "") != impl.TreeOk(list) || len(s) > impl.TreeMax {
			t.Fatalf("TreePut of %v is %q, TreeOk %v", list, s, impl.TreeOk(list))
		}
		if s == "" {
			wrong++
			continue
		}
		fine++
		if again, code := impl.TreeGet(s); code != impl.XmlFine || !sameTree(again, list) {
			t.Fatalf("TreeGet of TreePut of %v is %v, %d", list, again, code)
		}
	}
	if fine < 1000 || wrong < 300 {
		t.Errorf("%d trees were fine, %d wrong", fine, wrong)
	}
}

// Trees that are small enough are ok, whatever they are made of.
func TestTreesThatFitAreOk(t *testing.T) {
	d := newDice()
	for range 2000 {
		list := d.tree()
		size := 0
		for _, n := range list {
			size += 2*len(n.Name) + len("<></> xmlns=''") + 6*len(n.Space) + 6*len(n.Text)
			for _, a := range n.Attrs {
				size += len(" =''") + len(a.Name) + 6*len(a.Text)
			}
		}
		if size <= impl.TreeMax && !impl.TreeOk(list) {
			t.Fatalf("not ok: %v", list)
		}
	}
}

// looseText writes a tree with more blanks, other quotes and entities than TreePut does.
func looseText(d dice, s string) string {
	var out strings.Builder
	for i := 0; i < len(s); i++ {
		switch {
		case s[i] == '=':
			out.WriteString(d.pick([]string{" ", "\n"}, 2) + "=" + d.pick([]string{" ", "\t"}, 2))
		case s[i] == '/' && i+1 < len(s) && s[i+1] == '>':
			out.WriteString(d.pick([]string{" ", "\n"}, 1) + "/")
		case strings.HasPrefix(s[i:], "&gt;") && d.IntN(2) == 0:
			out.WriteString(">")
			i += len("&gt;") - 1
		case strings.HasPrefix(s[i:], "&lt;") && d.IntN(2) == 0:
			out.WriteString("&#x3C;")
			i += len("&lt;") - 1
		default:
			out.WriteByte(s[i])
		}
	}
	return out.String()
}

func TestP7WhatIsReadIsATree(t *testing.T) {
	d := newDice()
	fine := 0
	check := func(s string) {
		list, code := impl.TreeGet(s)
		if code != impl.XmlFine {
			if len(list) != 0 {
				t.Fatalf("TreeGet(%q) is %v beside %d", s, list, code)
			}
			return
		}
		fine++
		put := impl.TreePut(list)
		again, code := impl.TreeGet(put)
		if !impl.TreeOk(list) || code != impl.XmlFine || !sameTree(again, list) || impl.TreePut(again) != put {
			t.Fatalf("TreeGet(%q) is %v, of its TreePut %v, %d", s, list, again, code)
		}
	}
	for range 2000 {
		list := d.tree()
		s := impl.TreePut(list)
		loose := looseText(d, s)
		check(loose)
		if again, code := impl.TreeGet(loose); code == impl.XmlFine && !sameTree(again, list) {
			t.Fatalf("TreeGet(%q) is %v, not %v", loose, again, list)
		}
	}
	for _, c := range treeCases {
		check(c.text)
	}
	if fine < 1000 {
		t.Errorf("only %d trees were read", fine)
	}
	marks := []string{"<", "a", "/", ">", " ", "<a", "</a>", "='", "'", "b", "&amp;", "<b/>", "xmlns='q'"}
	for range 20000 {
		check("<a" + d.pick(marks, 7))
	}
}

func TestP8BeginningWaits(t *testing.T) {
	d := newDice()
	var texts []string
	for _, c := range treeCases {
		texts = append(texts, c.put)
	}
	for range 300 {
		texts = append(texts, impl.TreePut(d.tree()))
	}
	texts = append(texts, impl.TreePut([]impl.Node{{Up: -1, Name: "a"}, {Up: 0, Text: strings.Repeat("é&\U0001f600", 60)}}))
	texts = append(texts, "<a>"+strings.Repeat("x", impl.TreeMax-7)+"</a>")
	for _, s := range texts {
		if s == "" {
			continue
		}
		for at := range len(s) {
			if list, code := impl.TreeGet(s[:at]); code != impl.XmlMore || len(list) != 0 {
				t.Fatalf("TreeGet(%q) is %v, %d", s[:at], list, code)
			}
		}
		for _, more := range []string{" ", "\n", "x", "\xff", s, "<"} {
			if _, code := impl.TreeGet(s + more); code != bad {
				t.Fatalf("TreeGet(%q) is %d", s+more, code)
			}
		}
	}
}

func TestP9WrongStaysWrong(t *testing.T) {
	d := newDice()
	pieces := []string{"<", ">", "/", "a", "<a>", "</a>", "'", "\"", "&", ";", "&lt;", "#", " ", "=", "\xff", "\xc3", "\r", "é", "b='1'", "xmlns='", strings.Repeat("y", 300)}
	wrong := 0
	for range 1500 {
		s := d.pick(pieces, 8)
		if put := impl.TreePut(d.tree()); put != "" && d.IntN(2) == 0 {
			at := d.IntN(len(put))
			s = put[:at] + pieces[d.IntN(len(pieces))] + put[at+d.IntN(2):]
		}
		was, stopped := impl.XmlMore, 0
		for at := 0; at <= len(s); at++ {
			_, code := impl.TreeGet(s[:at])
			isWrong := code == bad || code == big
			if was != impl.XmlMore && !isWrong {
				t.Fatalf("TreeGet(%q) is %d, and was %d", s[:at], code, was)
			}
			if isWrong && stopped == 0 {
				stopped = code
			}
			if isWrong && code != stopped && !(stopped == big && code == bad) {
				t.Fatalf("TreeGet(%q) is %d, and was %d", s[:at], code, stopped)
			}
			was = code
		}
		if was != bad && was != big {
			continue
		}
		wrong++
		for _, more := range pieces {
			if _, code := impl.TreeGet(s + more); code != bad && code != big {
				t.Fatalf("TreeGet(%q) is %d", s+more, code)
			}
		}
	}
	if wrong < 500 {
		t.Errorf("only %d texts were wrong", wrong)
	}
}

func TestTreeAnswersAreNewMemory(t *testing.T) {
	text := "<a b='1' c='2' d='3'>x<e f='4' g='5' h='6'/><i j='7'/></a>"
	want, _ := impl.TreeGet(text)
	first, _ := impl.TreeGet(text)
	second, _ := impl.TreeGet(text)
	for i := range first {
		room := first[i].Attrs[:cap(first[i].Attrs)]
		for k := range room {
			room[k] = impl.Attr{Name: "changed", Text: "changed"}
		}
		for k := range first {
			if k > i && !slices.Equal(first[k].Attrs, want[k].Attrs) {
				t.Errorf("the attributes of %d and %d share memory", i, k)
			}
		}
	}
	for i := range first[:cap(first)] {
		first[:cap(first)][i] = impl.Node{Name: "changed"}
	}
	if !sameTree(second, want) {
		t.Error("two answers share memory")
	}
}

func TestArgumentsStayAsTheyAre(t *testing.T) {
	mark := impl.Attr{Name: "mark", Text: "mark"}
	room := append(attrs("b", "1", "c", "2"), mark)
	list := []impl.Node{{Up: -1, Name: "a", Attrs: room[:2]}, {Up: 0, Text: "x"}, {Up: 0, Name: "mark"}}
	was := cloneTree(list)
	if impl.TreePut(list[:2]) != "<a b='1' c='2'>x</a>" || !impl.TreeOk(list[:2]) {
		t.Error(impl.TreePut(list[:2]))
	}
	if !sameTree(list, was) || room[2] != mark {
		t.Error("something was written into an argument", list, room)
	}
}
