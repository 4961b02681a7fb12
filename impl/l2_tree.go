package impl

import (
	"slices"
	"strings"
)

// Why reading stopped, and limits of trees.
const (
	XmlFine = 0
	XmlMore = 1
	XmlBad  = 2
	XmlBig  = 3
	NameMax = 12
	AttrMax = 8
	NodeMax = 24
	DeepMax = 5
	TreeMax = 700
)

// spaceName is the attribute that tells the space of an element.
const spaceName = "xmlns"

// blanks are the signs that may stand where nothing else does.
const blanks = " \t\n"

// Attr is an attribute: a name, and what it says.
type Attr struct {
	Name string
	Text string
}

// Node is an element, with its name, space and attributes, or text (without a name), and where its parent stands (-1 none).
type Node struct {
	Up    int
	Name  string
	Space string
	Text  string
	Attrs []Attr
}

// NameOk says whether a text is a name.
func NameOk(s string) bool {
	if s == "" || len(s) > NameMax || !nameStart(s[0]) {
		return false
	}
	for i := range len(s) {
		if !nameByte(s[i]) {
			return false
		}
	}
	return true
}

// TreeOk says whether nodes are a tree.
func TreeOk(list []Node) bool {
	return TreePut(list) != ""
}

// TreePut writes a tree.
func TreePut(list []Node) string {
	text := writeNodes(list)
	if len(text) > TreeMax {
		return ""
	}
	// What nodes must be is asked by reading, so that nothing is written which cannot be read.
	again, _, code := readTree(text)
	if code != XmlFine || !slices.EqualFunc(list, again, sameNode) {
		return ""
	}
	return text
}

// TreeGet reads a tree, or tells why it stopped.
func TreeGet(s string) ([]Node, int) {
	list, size, code := readTree(s[:min(len(s), TreeMax)])
	switch {
	case code == XmlMore && len(s) > TreeMax:
		return nil, XmlBig
	case code != XmlFine:
		return nil, code
	case size < len(s):
		return nil, XmlBad
	case !TreeOk(list):
		return nil, XmlBig
	}
	return list, XmlFine
}

func nameStart(c byte) bool {
	return 'a' <= c && c <= 'z' || 'A' <= c && c <= 'Z' || c == '_'
}

func nameByte(c byte) bool {
	return nameStart(c) || isFigure(c) || c == '-' || c == '.'
}

func isBlank(c byte) bool {
	return strings.IndexByte(blanks, c) >= 0
}

func sameNode(a, b Node) bool {
	return a.Up == b.Up && a.Name == b.Name && a.Space == b.Space && a.Text == b.Text && slices.Equal(a.Attrs, b.Attrs)
}

// treeWriter writes nodes as they stand, be they a tree or not.
type treeWriter struct {
	list []Node
	out  strings.Builder
}

// writeNodes is how the first node is written, with all that is in it. Those that stand where they cannot be are left out.
func writeNodes(list []Node) string {
	if len(list) == 0 || len(list) > NodeMax {
		return ""
	}
	w := treeWriter{list: list}
	w.node(0, "")
	return w.out.String()
}

// node writes a node, and all that is in it, and is the place behind these.
func (w *treeWriter) node(at int, outer string) int {
	n := w.list[at]
	if n.Name == "" {
		w.out.WriteString(Escape(n.Text))
		return at + 1
	}
	w.out.WriteString("<" + n.Name)
	if n.Space != outer {
		w.attr(spaceName, n.Space)
	}
	for _, a := range n.Attrs {
		w.attr(a.Name, a.Text)
	}
	if !w.isIn(at+1, at) {
		w.out.WriteString("/>")
		return at + 1
	}
	w.out.WriteString(">")
	next := at + 1
	for w.isIn(next, at) {
		next = w.node(next, n.Space)
	}
	w.out.WriteString("</" + n.Name + ">")
	return next
}

func (w *treeWriter) isIn(at, up int) bool {
	return at < len(w.list) && w.list[at].Up == up
}

func (w *treeWriter) attr(name, text string) {
	w.out.WriteString(" " + name + "='" + Escape(text) + "'")
}

// treeStop is what reading panics with where it cannot go on.
type treeStop struct {
	code int
}

// treeReader reads nodes from a place of a text on.
type treeReader struct {
	text string
	at   int
	list []Node
}

// treeTag is an element as far as its attributes are read, and whether one of them told its space.
type treeTag struct {
	node   Node
	spaced bool
}

// readTree reads the element with which a text begins: its nodes, and how many bytes it takes, or why reading stopped.
func readTree(text string) ([]Node, int, int) {
	return readNodes(text, func(r *treeReader) {
		r.take('<')
		r.element(-1, "", 0)
	})
}

// readNodes lets a reader read what a text begins with: the nodes, and how many bytes they take, or why reading stopped.
func readNodes(text string, read func(r *treeReader)) (list []Node, size int, code int) {
	defer func() {
		if v := recover(); v != nil {
			stop, ok := v.(treeStop)
			if !ok {
				panic(v)
			}
			list, size, code = nil, 0, stop.code
		}
	}()
	r := treeReader{text: text}
	read(&r)
	return r.list, r.at, XmlFine
}

// peek is the next byte. There is one wherever reading goes on, so the end of the text stops it.
func (r *treeReader) peek() byte {
	if r.at == len(r.text) {
		panic(treeStop{XmlMore})
	}
	return r.text[r.at]
}

func (r *treeReader) take(c byte) {
	if r.peek() != c {
		panic(treeStop{XmlBad})
	}
	r.at++
}

// blanks skips blanks, and says whether there were some.
func (r *treeReader) blanks() bool {
	from := r.at
	for isBlank(r.peek()) {
		r.at++
	}
	return r.at > from
}

func (r *treeReader) name() string {
	from := r.at
	for nameByte(r.peek()) {
		r.at++
		if !NameOk(r.text[from:r.at]) {
			panic(treeStop{XmlBad})
		}
	}
	if r.at == from {
		panic(treeStop{XmlBad})
	}
	return strings.Clone(r.text[from:r.at])
}

// parts reads signs and entities up to the byte that ends them.
func (r *treeReader) parts(end byte) string {
	var out strings.Builder
	for p := range textParts(r.text[r.at:]) {
		switch {
		case p.isRaw(end):
			return out.String()
		case p.state == partCut:
			panic(treeStop{XmlMore})
		case p.state == partWrong || p.isRaw('<'):
			panic(treeStop{XmlBad})
		}
		out.WriteString(SignPut(p.sign))
		r.at += p.size
	}
	panic(treeStop{XmlMore})
}

func (r *treeReader) add(n Node) {
	if len(r.list) == NodeMax {
		panic(treeStop{XmlBig})
	}
	r.list = append(r.list, n)
}

// element reads an element behind its <, that is in so many others. In others it has a byte there that is not /, as inside looked.
func (r *treeReader) element(up int, outer string, deep int) {
	if deep == DeepMax {
		panic(treeStop{XmlBig})
	}
	n := r.tag(up, outer)
	at := len(r.list)
	r.add(n)
	if r.peek() == '/' {
		r.at++
		r.take('>')
		return
	}
	r.take('>')
	r.inside(at, deep+1)
	r.end(n.Name)
}

// tag reads the name and the attributes of an element, up to the > or / behind them.
func (r *treeReader) tag(up int, outer string) Node {
	t := treeTag{node: Node{Up: up, Name: r.name(), Space: outer}}
	for {
		apart := r.blanks()
		if c := r.peek(); c == '>' || c == '/' {
			return t.node
		}
		if !apart {
			panic(treeStop{XmlBad})
		}
		r.attr(&t)
	}
}

func (r *treeReader) attr(t *treeTag) {
	name := r.name()
	r.blanks()
	r.take('=')
	r.blanks()
	quote := r.peek()
	if quote != '\'' && quote != '"' {
		panic(treeStop{XmlBad})
	}
	r.at++
	text := r.parts(quote)
	if !t.add(Attr{Name: name, Text: text}) {
		panic(treeStop{XmlBad})
	}
	r.at++
}

// add keeps an attribute in its place, and is false if there is one already, or no room for it.
func (t *treeTag) add(a Attr) bool {
	if a.Name == spaceName {
		fresh := !t.spaced
		t.node.Space, t.spaced = a.Text, true
		return fresh
	}
	at, there := slices.BinarySearchFunc(t.node.Attrs, a, compareAttrs)
	if there || len(t.node.Attrs) == AttrMax {
		return false
	}
	t.node.Attrs = slices.Insert(t.node.Attrs, at, a)
	return true
}

func compareAttrs(a, b Attr) int {
	return strings.Compare(a.Name, b.Name)
}

// inside reads what is in an element, up to the / of what ends it.
func (r *treeReader) inside(up int, deep int) {
	for {
		text := r.parts('<')
		if text != "" {
			r.add(Node{Up: up, Text: text})
		}
		r.take('<')
		if r.peek() == '/' {
			return
		}
		r.element(up, r.list[up].Space, deep)
	}
}

// end reads what ends an element, behind its <.
func (r *treeReader) end(name string) {
	r.take('/')
	again := r.name()
	if again != name {
		panic(treeStop{XmlBad})
	}
	r.blanks()
	r.take('>')
}
