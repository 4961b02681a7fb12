package tests

import (
	"slices"
	"strings"
	"testing"

	"loop.example/hubbub/impl"
)

// The states, kinds and limits are the document's: other tests take them by name.
func TestStreamNumbers(t *testing.T) {
	states := [4]int{impl.StreamNew, impl.StreamOn, impl.StreamOff, impl.StreamBad}
	kinds := [4]int{impl.ItemOpen, impl.ItemTree, impl.ItemClose, impl.ItemBad}
	if states != [4]int{0, 1, 2, 3} || kinds != [4]int{1, 2, 3, 4} || impl.FeedMax != 2000 {
		t.Error(states, kinds, impl.FeedMax)
	}
}

func sameItems(a, b []impl.Item) bool {
	return slices.EqualFunc(a, b, func(x, y impl.Item) bool {
		return x.Kind == y.Kind && x.Code == y.Code && sameTree(x.Tree, y.Tree)
	})
}

// feedPieces feeds piece by piece, and is the state and all items.
func feedPieces(x impl.Stream, pieces ...string) (impl.Stream, []impl.Item) {
	var all []impl.Item
	for _, p := range pieces {
		y, items := impl.StreamFeed(x, p)
		x, all = y, append(all, items...)
	}
	return x, all
}

// feedBytes feeds each byte alone.
func feedBytes(x impl.Stream, text string) (impl.Stream, []impl.Item) {
	pieces := make([]string, len(text))
	for i := range len(text) {
		pieces[i] = text[i : i+1]
	}
	return feedPieces(x, pieces...)
}

func opens(space string, list []impl.Attr) impl.Item {
	return impl.Item{Kind: impl.ItemOpen, Tree: []impl.Node{{Up: -1, Name: "stream", Space: space, Attrs: list}}}
}

func comes(nodes ...impl.Node) impl.Item {
	return impl.Item{Kind: impl.ItemTree, Tree: nodes}
}

func breaks(code int) impl.Item {
	return impl.Item{Kind: impl.ItemBad, Code: code}
}

func elem(name string) impl.Node {
	return impl.Node{Up: -1, Name: name}
}

func waits(buf string) impl.Stream {
	return impl.Stream{State: impl.StreamOn, Buf: buf}
}

func broken(code int) impl.Stream {
	return impl.Stream{State: impl.StreamBad, Code: code}
}

var (
	isNew  = impl.Stream{}
	isOn   = impl.Stream{State: impl.StreamOn}
	isOff  = impl.Stream{State: impl.StreamOff}
	inUrn  = impl.Stream{State: impl.StreamOn, Space: "urn:s"}
	closes = impl.Item{Kind: impl.ItemClose}
)

// long is a text that begins with head, ends with tail, and has so many bytes.
func long(head, fill, tail string, size int) string {
	return head + strings.Repeat(fill, (size-len(head)-len(tail))/len(fill)) + tail
}

type streamCase struct {
	from  impl.Stream
	text  string
	to    impl.Stream
	items []impl.Item
}

var openCases = []streamCase{
	{isNew, "", isNew, nil},
	{isNew, " ", isNew, nil},
	{isNew, " \t\n", isNew, nil},
	{isNew, "<", impl.Stream{Buf: "<"}, nil},
	{isNew, " \n<stream \n", impl.Stream{Buf: "<stream \n"}, nil},
	{isNew, "<s", impl.Stream{Buf: "<s"}, nil},
	{isNew, "<strem a='1'", impl.Stream{Buf: "<strem a='1'"}, nil},
	{isNew, "<stream a='\xe2\x82", impl.Stream{Buf: "<stream a='\xe2\x82"}, nil},
	{isNew, "<stream a='&l", impl.Stream{Buf: "<stream a='&l"}, nil},
	{isNew, "<stream/", impl.Stream{Buf: "<stream/"}, nil},
	{isNew, "<x/", impl.Stream{Buf: "<x/"}, nil},
	{isNew, "<stream>", isOn, []impl.Item{opens("", nil)}},
	{isNew, "\n <stream \t\n> \n", isOn, []impl.Item{opens("", nil)}},
	{isNew, "<stream xmlns=''>", isOn, []impl.Item{opens("", nil)}},
	{isNew, "<stream to = \"h'\" xmlns='urn:s'\na='&lt;1'>", inUrn, []impl.Item{opens("urn:s", attrs("a", "<1", "to", "h'"))}},
	{isNew, "<stream xmlns='&#60;é'>", impl.Stream{State: impl.StreamOn, Space: "<é"}, []impl.Item{opens("<é", nil)}},
	{isNew, "<stream" + someAttrs(2) + " xmlns='q'>", impl.Stream{State: impl.StreamOn, Space: "q"}, []impl.Item{opens("q", attrs("a0", "1", "a1", "1"))}},
	{isNew, "<stream><a", waits("<a"), []impl.Item{opens("", nil)}},
	{isNew, "<stream><stream>", waits("<stream>"), []impl.Item{opens("", nil)}},
	{isNew, "<stream></stream>", isOff, []impl.Item{opens("", nil), closes}},
	{isNew, "<stream>x", broken(bad), []impl.Item{opens("", nil), breaks(bad)}},
	{isNew, "<stream xmlns='urn:s'><a/>", inUrn, []impl.Item{opens("urn:s", nil), comes(impl.Node{Up: -1, Name: "a", Space: "urn:s"})}},
	{isNew, "<stream/>", broken(bad), []impl.Item{breaks(bad)}},
	{isNew, "<stream a='1' />", broken(bad), []impl.Item{breaks(bad)}},
	{isNew, "<stream/x", broken(bad), []impl.Item{breaks(bad)}},
	{isNew, "<strem>", broken(bad), []impl.Item{breaks(bad)}},
	{isNew, "<streams>", broken(bad), []impl.Item{breaks(bad)}},
	{isNew, "<Stream>", broken(bad), []impl.Item{breaks(bad)}},
	{isNew, "<x xmlns='stream'>", broken(bad), []impl.Item{breaks(bad)}},
	{isNew, "<x/>", broken(bad), []impl.Item{breaks(bad)}},
	{isNew, "x", broken(bad), []impl.Item{breaks(bad)}},
	{isNew, " \nx<stream>", broken(bad), []impl.Item{breaks(bad)}},
	{isNew, "\r", broken(bad), []impl.Item{breaks(bad)}},
	{isNew, "\x00", broken(bad), []impl.Item{breaks(bad)}},
	{isNew, "\xe2", broken(bad), []impl.Item{breaks(bad)}},
	{isNew, ">", broken(bad), []impl.Item{breaks(bad)}},
	{isNew, "&", broken(bad), []impl.Item{breaks(bad)}},
	{isNew, "</", broken(bad), []impl.Item{breaks(bad)}},
	{isNew, "</stream>", broken(bad), []impl.Item{breaks(bad)}},
	{isNew, "<?xml", broken(bad), []impl.Item{breaks(bad)}},
	{isNew, "< stream>", broken(bad), []impl.Item{breaks(bad)}},
	{isNew, "<stream a='1' a='2'", broken(bad), []impl.Item{breaks(bad)}},
	{isNew, "<stream xmlns='a' xmlns='a'", broken(bad), []impl.Item{breaks(bad)}},
	{isNew, "<stream" + someAttrs(9), broken(bad), []impl.Item{breaks(bad)}},
	{isNew, "<stream a='<", broken(bad), []impl.Item{breaks(bad)}},
	{isNew, "<stream a>", broken(bad), []impl.Item{breaks(bad)}},
	{isNew, "<abcdefghijklm", broken(bad), []impl.Item{breaks(bad)}},
}

var onCases = []streamCase{
	{isOn, "", isOn, nil},
	{isOn, "\t\n ", isOn, nil},
	{isOn, "<a/>", isOn, []impl.Item{comes(elem("a"))}},
	{isOn, " <a/>\n", isOn, []impl.Item{comes(elem("a"))}},
	{isOn, "<a/><b/>\n\t <c/>", isOn, []impl.Item{comes(elem("a")), comes(elem("b")), comes(elem("c"))}},
	{isOn, "<a b='1'>x<c/></a>", isOn, []impl.Item{comes(impl.Node{Up: -1, Name: "a", Attrs: attrs("b", "1")}, impl.Node{Text: "x"}, impl.Node{Name: "c"})}},
	{isOn, "<a> <b", waits("<a> <b"), nil},
	{isOn, "<a/> \n<b> ", waits("<b> "), []impl.Item{comes(elem("a"))}},
	{isOn, "<stream/>", isOn, []impl.Item{comes(elem("stream"))}},
	{isOn, "<stream></stream>", isOn, []impl.Item{comes(elem("stream"))}},
	{isOn, "<stream></stream></stream>", isOff, []impl.Item{comes(elem("stream")), closes}},
	{isOn, "</stream>", isOff, []impl.Item{closes}},
	{inUrn, " </stream \t\n>", isOff, []impl.Item{closes}},
	{inUrn, "<a/></stream><b/>", isOff, []impl.Item{comes(impl.Node{Up: -1, Name: "a", Space: "urn:s"}), closes}},
	{isOn, "</stream>\xff</stream>", isOff, []impl.Item{closes}},
	{isOn, "<", waits("<"), nil},
	{isOn, "</", waits("</"), nil},
	{isOn, "</stre", waits("</stre"), nil},
	{isOn, "</stream", waits("</stream"), nil},
	{isOn, "</stream \n", waits("</stream \n"), nil},
	{isOn, "</x", waits("</x"), nil},
	{isOn, "</streams", waits("</streams"), nil},
	{isOn, "</x>", broken(bad), []impl.Item{breaks(bad)}},
	{isOn, "</x ", broken(bad), []impl.Item{breaks(bad)}},
	{isOn, "</strea>", broken(bad), []impl.Item{breaks(bad)}},
	{isOn, "</streams>", broken(bad), []impl.Item{breaks(bad)}},
	{isOn, "</Stream>", broken(bad), []impl.Item{breaks(bad)}},
	{isOn, "</abcdefghijklm", broken(bad), []impl.Item{breaks(bad)}},
	{isOn, "</ ", broken(bad), []impl.Item{breaks(bad)}},
	{isOn, "</>", broken(bad), []impl.Item{breaks(bad)}},
	{isOn, "</1", broken(bad), []impl.Item{breaks(bad)}},
	{isOn, "</stream/", broken(bad), []impl.Item{breaks(bad)}},
	{isOn, "</stream a", broken(bad), []impl.Item{breaks(bad)}},
	{isOn, "</stream <", broken(bad), []impl.Item{breaks(bad)}},
	{isOn, "x", broken(bad), []impl.Item{breaks(bad)}},
	{isOn, "&amp;", broken(bad), []impl.Item{breaks(bad)}},
	{isOn, ">", broken(bad), []impl.Item{breaks(bad)}},
	{isOn, "\xc3", broken(bad), []impl.Item{breaks(bad)}},
	{isOn, "\r<a/>", broken(bad), []impl.Item{breaks(bad)}},
	{isOn, "<a/> x<b/>", broken(bad), []impl.Item{comes(elem("a")), breaks(bad)}},
	{isOn, "<a/><b></c><d/>", broken(bad), []impl.Item{comes(elem("a")), breaks(bad)}},
	{isOn, "<a>&;</a>", broken(bad), []impl.Item{breaks(bad)}},
	{isOn, "<a><b></a>", broken(bad), []impl.Item{breaks(bad)}},
	{isOn, "<!", broken(bad), []impl.Item{breaks(bad)}},
	{inUrn, "<a><b xmlns=''/><c/></a>", inUrn, []impl.Item{comes(impl.Node{Up: -1, Name: "a", Space: "urn:s"}, impl.Node{Name: "b"}, impl.Node{Name: "c", Space: "urn:s"})}},
	{inUrn, "<a xmlns=''><b/></a>", inUrn, []impl.Item{comes(elem("a"), impl.Node{Name: "b"})}},
	{inUrn, "<a xmlns='q'/><b/>", inUrn, []impl.Item{comes(impl.Node{Up: -1, Name: "a", Space: "q"}), comes(impl.Node{Up: -1, Name: "b", Space: "urn:s"})}},
	{isOff, "", isOff, nil},
	{isOff, "<a/>", isOff, nil},
	{isOff, "<stream>", isOff, nil},
	{broken(bad), "<stream><a/>", broken(bad), nil},
	{broken(big), "</stream>", broken(big), nil},
}

// limitCases has each limit met exactly, and passed by one.
func limitCases() []streamCase {
	full := impl.TreeMax
	nested := strings.Repeat("<a>", impl.DeepMax)
	back := strings.Repeat("</a>", impl.DeepMax)
	waiting := long("<stream a='", "x", "", full)
	opening := long("<stream a='", "x", "'>", full)
	wide := long("<stream xmlns='", "x", "'>", full)
	space := wide[15 : full-2]
	text := strings.Repeat("x", full)
	cut := long("<a>", "x", "\xc3", full)
	quotes := strings.Repeat("'", 120)
	spaceFits := strings.Repeat("s", full-len("<a xmlns=''/>"))
	withSpace := func(s string) impl.Stream { return impl.Stream{State: impl.StreamOn, Space: s} }
	return []streamCase{
		{isNew, waiting, impl.Stream{Buf: waiting}, nil},
		{isNew, waiting + "x", broken(big), []impl.Item{breaks(big)}},
		{isNew, waiting + "'>", broken(big), []impl.Item{breaks(big)}},
		{isNew, waiting + "<", broken(big), []impl.Item{breaks(big)}},
		{isNew, opening, isOn, []impl.Item{opens("", attrs("a", text[:full-13]))}},
		{isNew, long("<stream a='", "x", "'>", full+1), broken(big), []impl.Item{breaks(big)}},
		{isNew, long("<x a='", "x", "'>", full), broken(bad), []impl.Item{breaks(bad)}},
		{isNew, long("<x a='", "x", "'>", full+1), broken(big), []impl.Item{breaks(big)}},
		{isNew, long("<stream a='", "x", "'/>", full+1), broken(big), []impl.Item{breaks(big)}},
		{isNew, wide, withSpace(space), []impl.Item{opens(space, nil)}},
		{isNew, wide + "<abcde/>", withSpace(space), []impl.Item{opens(space, nil), comes(impl.Node{Up: -1, Name: "abcde", Space: space})}},
		{isNew, wide + "<abcdef/>", broken(big), []impl.Item{opens(space, nil), breaks(big)}},
		{isNew, strings.Repeat(" ", 900) + opening + strings.Repeat("\n", 300), isOn, []impl.Item{opens("", attrs("a", text[:full-13]))}},
		{isNew, "<stream a='" + quotes + quotes[:1] + "'>", broken(bad), []impl.Item{breaks(bad)}},
		{isNew, "<stream a=\"" + quotes + "\">", isOn, []impl.Item{opens("", attrs("a", quotes))}},
		{isOn, long("<a>", "x", "", full), waits(long("<a>", "x", "", full)), nil},
		{isOn, long("<a>", "x", "", full+1), broken(big), []impl.Item{breaks(big)}},
		{isOn, cut, waits(cut), nil},
		{isOn, cut + "<", broken(big), []impl.Item{breaks(big)}},
		{isOn, long("<a>", "x", "<", full) + "<", broken(big), []impl.Item{breaks(big)}},
		{isOn, long("<a>", "x", "<<", full), broken(bad), []impl.Item{breaks(bad)}},
		{isOn, long("<a>", "x", "</a>", full), isOn, []impl.Item{comes(elem("a"), impl.Node{Text: text[:full-7]})}},
		{isOn, long("<a>", "x", "</a>", full) + "<b/>", isOn, []impl.Item{comes(elem("a"), impl.Node{Text: text[:full-7]}), comes(elem("b"))}},
		{isOn, long("<a>", "x", "</a>", full+1), broken(big), []impl.Item{breaks(big)}},
		{isOn, strings.Repeat("\t", 1200) + long("<a>", "x", "</a>", full), isOn, []impl.Item{comes(elem("a"), impl.Node{Text: text[:full-7]})}},
		{isOn, long("</stream", " ", ">", full), isOff, []impl.Item{closes}},
		{isOn, long("</stream", " ", "", full), waits(long("</stream", " ", "", full)), nil},
		{isOn, long("</stream", " ", ">", full+1), broken(big), []impl.Item{breaks(big)}},
		{isOn, "<a>" + strings.Repeat("'", 115) + "xxx</a>", isOn, []impl.Item{comes(elem("a"), impl.Node{Text: quotes[:115] + "xxx"})}},
		{isOn, "<a>" + strings.Repeat("'", 115) + "xxxx</a><b/>", broken(big), []impl.Item{breaks(big)}},
		{withSpace(spaceFits), "<a/>", withSpace(spaceFits), []impl.Item{comes(impl.Node{Up: -1, Name: "a", Space: spaceFits})}},
		{withSpace(spaceFits + "s"), "<a/>", broken(big), []impl.Item{breaks(big)}},
		{withSpace(spaceFits + "s"), "<a xmlns=''/>", withSpace(spaceFits + "s"), []impl.Item{comes(elem("a"))}},
		{isOn, nested + back, isOn, []impl.Item{comes(elem("a"), impl.Node{Name: "a"}, impl.Node{Up: 1, Name: "a"}, impl.Node{Up: 2, Name: "a"}, impl.Node{Up: 3, Name: "a"})}},
		{isOn, nested + "<", waits(nested + "<"), nil},
		{isOn, nested + "<a", broken(big), []impl.Item{breaks(big)}},
		{isOn, nested + "<!", broken(big), []impl.Item{breaks(big)}},
		{isOn, "<a>" + children(impl.NodeMax-1) + "</a", waits("<a>" + children(impl.NodeMax-1) + "</a"), nil},
		{isOn, "<a>" + children(impl.NodeMax-1) + "<b/", broken(big), []impl.Item{breaks(big)}},
		{isOn, "<a>" + children(impl.NodeMax-1) + "x<", broken(big), []impl.Item{breaks(big)}},
		{isNew, "<stream" + someAttrs(impl.AttrMax), impl.Stream{Buf: "<stream" + someAttrs(impl.AttrMax)}, nil},
		{isNew, "<stream" + someAttrs(impl.AttrMax) + " b='1'", broken(bad), []impl.Item{breaks(bad)}},
	}
}

func streamCases() []streamCase {
	return slices.Concat(openCases, onCases, limitCases())
}

func TestStreamFeed(t *testing.T) {
	for _, c := range streamCases() {
		if !impl.StreamOk(c.from) || !impl.StreamOk(c.to) {
			t.Errorf("StreamOk is %.80v of %.80v, %.80v of %.80v", impl.StreamOk(c.from), c.from, impl.StreamOk(c.to), c.to)
		}
		if x, items := impl.StreamFeed(c.from, c.text); x != c.to || !sameItems(items, c.items) {
			t.Errorf("StreamFeed(%.80v, %.80q) is %.80v, %.80v", c.from, c.text, x, items)
		}
	}
}

// What is wrong breaks a stream with its first byte that is wrong, not later.
func TestStreamBreaksAtOnce(t *testing.T) {
	for _, c := range streamCases() {
		if !slices.ContainsFunc(c.items, func(i impl.Item) bool { return i.Kind == impl.ItemBad }) {
			continue
		}
		for size := range len(c.text) {
			x, items := impl.StreamFeed(c.from, c.text[:size])
			if x.State == impl.StreamBad && (x != c.to || !sameItems(items, c.items)) {
				t.Errorf("the first %d bytes of %.80q break by %d", size, c.text, x.Code)
			}
		}
	}
	for _, c := range stops {
		if c.text[0] != '<' || strings.HasPrefix(c.text, "</") || len(c.text) > impl.TreeMax {
			continue
		}
		code := c.code
		if _, before := impl.TreeGet(c.text[:len(c.text)-1]); before != impl.XmlMore {
			continue
		}
		if x, items := impl.StreamFeed(isOn, c.text); x != broken(code) || !sameItems(items, []impl.Item{breaks(code)}) {
			t.Errorf("%.80q makes %.80v, %.80v", c.text, x, items)
		}
		if x, items := impl.StreamFeed(isOn, c.text[:len(c.text)-1]); x != waits(c.text[:len(c.text)-1]) || items != nil {
			t.Errorf("%.80q makes %.80v, %.80v", c.text[:len(c.text)-1], x, items)
		}
	}
}

var streamsNotOk = []impl.Stream{
	{State: -1}, {State: 4}, {State: impl.StreamNew, Code: 1}, {State: impl.StreamNew, Code: -1}, {State: impl.StreamNew, Code: impl.XmlBad}, {State: impl.StreamNew, Space: "q"},
	{Buf: " "}, {Buf: "\n<"}, {Buf: "x"}, {Buf: "<1"}, {Buf: "</"}, {Buf: "<stream>"}, {Buf: "<x>"}, {Buf: "<x/>"}, {Buf: "<stream>x"}, {Buf: "<stream><a"}, {Buf: "\xff"},
	{Buf: long("<stream a='", "x", "", impl.TreeMax+1)}, {Buf: strings.Repeat("<", impl.TreeMax+1)},
	{State: impl.StreamOn, Code: impl.XmlMore}, {State: impl.StreamOn, Code: impl.XmlBad},
	{State: impl.StreamOn, Space: "\xff"}, {State: impl.StreamOn, Space: "\x00"}, {State: impl.StreamOn, Space: "a\xc3"}, {State: impl.StreamOn, Space: strings.Repeat("x", impl.TreeMax+1)},
	{State: impl.StreamOn, Buf: " "}, {State: impl.StreamOn, Buf: " <a"}, {State: impl.StreamOn, Buf: "x"}, {State: impl.StreamOn, Buf: "<a/>"}, {State: impl.StreamOn, Buf: "<a/><b"}, {State: impl.StreamOn, Buf: "<a></b>"},
	{State: impl.StreamOn, Buf: "</stream>"}, {State: impl.StreamOn, Buf: "</x>"}, {State: impl.StreamOn, Buf: long("<a>", "x", "", impl.TreeMax+1)}, {State: impl.StreamOn, Buf: "<a>\xff"},
	{State: impl.StreamOn, Space: strings.Repeat("x", impl.TreeMax), Buf: "<a/>"},
	{State: impl.StreamOff, Buf: "<"}, {State: impl.StreamOff, Space: "q"}, {State: impl.StreamOff, Code: 2},
	{State: impl.StreamBad}, {State: impl.StreamBad, Code: impl.XmlMore}, {State: impl.StreamBad, Code: 4}, {State: impl.StreamBad, Code: -1}, {State: impl.StreamBad, Code: impl.XmlBad, Buf: "<"}, {State: impl.StreamBad, Code: impl.XmlBig, Space: "q"},
}

func TestStreamNotOk(t *testing.T) {
	for _, x := range streamsNotOk {
		if impl.StreamOk(x) {
			t.Errorf("StreamOk(%.80v) is true", x)
		}
		if y, items := impl.StreamFeed(x, "<stream><a/>"); y != isNew || items != nil {
			t.Errorf("StreamFeed of %.80v is %.80v, %.80v", x, y, items)
		}
	}
}

func TestStreamOk(t *testing.T) {
	for _, x := range []impl.Stream{
		isNew, isOn, inUrn, isOff, broken(bad), broken(big), {Buf: "<"}, {Buf: "<x"}, {Buf: long("<stream a='", "x", "", impl.TreeMax)},
		waits("<a>"), waits("</x"), {State: impl.StreamOn, Space: "é\n<"}, {State: impl.StreamOn, Space: strings.Repeat("x", impl.TreeMax), Buf: long("<a>", "x", "", impl.TreeMax)},
	} {
		if !impl.StreamOk(x) {
			t.Errorf("StreamOk(%.80v) is false", x)
		}
		if y, items := impl.StreamFeed(x, ""); y != x || items != nil {
			t.Errorf("StreamFeed of %.80v and nothing is %.80v, %.80v", x, y, items)
		}
	}
}

func TestFeedMax(t *testing.T) {
	full := strings.Repeat("<a/>", impl.FeedMax/4)
	x, items := impl.StreamFeed(isOn, full)
	if x != isOn || len(items) != impl.FeedMax/4 {
		t.Error(x, len(items))
	}
	for _, x := range []impl.Stream{isNew, isOn, inUrn, waits("<a>"), isOff, broken(bad)} {
		if y, items := impl.StreamFeed(x, full+" "); y != isNew || items != nil {
			t.Errorf("StreamFeed of %.80v and one byte too many is %.80v, %.80v", x, y, items)
		}
	}
	buf := long("<a>", "x", "", impl.TreeMax-4)
	rest := "</a>" + full[:impl.FeedMax-4]
	if x, items := impl.StreamFeed(waits(buf), rest); x != isOn || len(items) != impl.FeedMax/4 {
		t.Error(x, len(items))
	}
}

// bytesOf is bytes as a client could send them, more or less.
func bytesOf(d dice) string {
	pieces := []string{
		"<stream>", "<stream xmlns='urn:q'>", "</stream>", " ", "\n", "\t", "<a/>", "<a>", "</a>", "<b c='1'/>", "<b c=\"", "'", "\"", "/>", ">", "<", "&lt;", "&", "x", "é", "\xc3", "\xe2\x82", "<a xmlns='r'>", "<abcdefghijkl",
		strings.Repeat("x", 300), strings.Repeat(" ", 350), "<a>" + strings.Repeat("y", 690), "<a><a><a>", "<b/><b/><b/><b/><b/><b/><b/><b/>",
	}
	text := ""
	if d.IntN(4) > 0 {
		text = d.pick(pieces[3:6], 3) + pieces[d.IntN(2)]
	}
	for range d.IntN(8) {
		switch tree := impl.TreePut(d.tree()); {
		case d.IntN(3) == 0:
			text += d.pick(pieces, 2)
		default:
			text += d.pick(pieces[3:6], 2) + tree
		}
	}
	if d.IntN(4) == 0 {
		text += "</stream>" + d.pick(pieces, 2)
	}
	return text[:min(len(text), impl.FeedMax)]
}

// checkFed holds what a feed must be, whatever was fed (P11, P14).
func checkFed(t *testing.T, from impl.Stream, text string, to impl.Stream, items []impl.Item) {
	t.Helper()
	if !impl.StreamOk(to) || len(to.Buf) > impl.TreeMax {
		t.Errorf("StreamFeed(%.80v, %.80q) is not ok: %.80v", from, text, to)
	}
	if from.State >= impl.StreamOff && (to != from || len(items) > 0) {
		t.Errorf("StreamFeed(%.80v, %.80q) is %.80v, %.80v", from, text, to, items)
	}
	for i, item := range items {
		last := item.Kind == impl.ItemClose || item.Kind == impl.ItemBad
		if last && i != len(items)-1 || item.Kind == impl.ItemOpen && (i > 0 || from.State != impl.StreamNew) || i == 0 && from.State == impl.StreamNew && item.Kind != impl.ItemOpen && item.Kind != impl.ItemBad {
			t.Errorf("StreamFeed(%.80v, %.80q): %d is %.80v", from, text, i, item)
		}
		if item.Kind == impl.ItemClose && to != isOff || item.Kind == impl.ItemBad && to != broken(item.Code) {
			t.Errorf("StreamFeed(%.80v, %.80q) ends as %.80v behind %.80v", from, text, to, item)
		}
		if (item.Kind == impl.ItemTree) != impl.TreeOk(item.Tree) && item.Kind != impl.ItemOpen {
			t.Errorf("StreamFeed(%.80v, %.80q): the tree of %.80v", from, text, item)
		}
	}
	ended := len(items) > 0 && items[len(items)-1].Kind >= impl.ItemClose
	if to.State >= impl.StreamOff && from.State < impl.StreamOff && !ended {
		t.Errorf("StreamFeed(%.80v, %.80q) ends without saying so", from, text)
	}
}

func TestP10CutsChangeNothing(t *testing.T) {
	for _, c := range streamCases() {
		for cut := range len(c.text) + 1 {
			if x, items := feedPieces(c.from, c.text[:cut], c.text[cut:]); x != c.to || !sameItems(items, c.items) {
				t.Fatalf("%.80q, cut at %d, makes %.80v, %.80v", c.text, cut, x, items)
			}
		}
	}
	d := newDice()
	for range 300 {
		text := bytesOf(d)
		want, wantItems := impl.StreamFeed(isNew, text)
		for range 10 {
			cut := d.IntN(len(text) + 1)
			again := cut + d.IntN(len(text)-cut+1)
			x, items := feedPieces(isNew, text[:cut], text[cut:again], text[again:])
			if x != want || !sameItems(items, wantItems) {
				t.Fatalf("%.80q, cut at %d and %d, makes %.80v, %.80v", text, cut, again, x, items)
			}
		}
	}
}

func TestP11StreamStaysOk(t *testing.T) {
	for _, c := range streamCases() {
		for cut := range len(c.text) + 1 {
			x, items := impl.StreamFeed(c.from, c.text[:cut])
			checkFed(t, c.from, c.text[:cut], x, items)
			y, items := impl.StreamFeed(x, c.text[cut:])
			checkFed(t, x, c.text[cut:], y, items)
		}
	}
	for _, x := range []impl.Stream{isOff, broken(bad), broken(big)} {
		for _, text := range []string{"", " ", "<stream>", "</stream>", "<a/>", "x", strings.Repeat("x", impl.FeedMax)} {
			if y, items := impl.StreamFeed(x, text); y != x || items != nil {
				t.Errorf("StreamFeed(%.80v, %.80q) is %.80v, %.80v", x, text, y, items)
			}
		}
	}
}

func TestP12EachByteAlone(t *testing.T) {
	for _, c := range streamCases() {
		if x, items := feedBytes(c.from, c.text); x != c.to || !sameItems(items, c.items) {
			t.Errorf("%.80q, byte by byte, makes %.80v, %.80v", c.text, x, items)
		}
	}
	d := newDice()
	for range 60 {
		text := bytesOf(d)
		want, wantItems := impl.StreamFeed(isNew, text)
		if x, items := feedBytes(isNew, text); x != want || !sameItems(items, wantItems) {
			t.Fatalf("%.80q, byte by byte, makes %.80v, %.80v", text, x, items)
		}
	}
}

func TestP13TreeComesByAStream(t *testing.T) {
	d := newDice()
	trees := 0
	for range 1500 {
		list := d.tree()
		text := impl.TreePut(list)
		if text == "" {
			continue
		}
		trees++
		from := isOn
		if list[0].Space != "" && d.IntN(2) == 0 {
			from = inUrn
		}
		x, items := impl.StreamFeed(from, " "+text+"\n")
		if x != from || !sameItems(items, []impl.Item{comes(list...)}) {
			t.Fatalf("%.80q makes %.80v, %.80v", text, x, items)
		}
	}
	if trees < 1000 {
		t.Errorf("only %d trees", trees)
	}
}

func TestP14WhatEndsIsLast(t *testing.T) {
	d := newDice()
	ends := [4]int{}
	for range 1500 {
		text := bytesOf(d)
		x := isNew
		for at := 0; at < len(text); {
			size := 1 + d.IntN(len(text)-at)
			y, items := impl.StreamFeed(x, text[at:at+size])
			checkFed(t, x, text[at:at+size], y, items)
			x, at = y, at+size
		}
		ends[x.State]++
	}
	for state, n := range ends {
		if n < 20 {
			t.Errorf("only %d streams were left in the state %d", n, state)
		}
	}
}

func TestStreamAnswersAreNewMemory(t *testing.T) {
	text := "<stream a='1' b='2' c='3'><a b='1' c='2' d='3'>x<e f='4'/></a><b c='5'/><c>y</c>"
	_, want := impl.StreamFeed(isNew, text)
	_, items := impl.StreamFeed(isNew, text)
	for i := range items {
		tree := items[i].Tree[:cap(items[i].Tree)]
		for k := range tree {
			room := tree[k].Attrs[:cap(tree[k].Attrs)]
			for m := range room {
				room[m] = impl.Attr{Name: "changed"}
			}
			tree[k] = impl.Node{Name: "changed"}
		}
		if !sameItems(items[i+1:], want[i+1:]) {
			t.Errorf("the item %d shares memory with one behind it", i)
		}
	}
	if _, again := impl.StreamFeed(isNew, text); !sameItems(again, want) {
		t.Error("two answers share memory")
	}
}
