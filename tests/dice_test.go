package tests

import (
	"math/rand/v2"
	"slices"
	"strings"

	"loop.example/hubbub/impl"
)

// dice makes inputs, the same ones at each run.
type dice struct {
	*rand.Rand
}

func newDice() dice {
	return dice{rand.New(rand.NewPCG(1, 2))}
}

// text is a text that is ok, of less than so many signs.
func (d dice) text(most int) string {
	signs := []rune{'a', 'z', '<', '>', '&', '\'', '"', '\n', '\t', ' ', ';', '#', 0x7f, 0x80, 0xe9, 0x7ff, 0x800, 0xd7ff, 0xe000, 0xfffd, 0x10000, 0x1f600, 0x10ffff}
	var out strings.Builder
	for range d.IntN(most) {
		out.WriteRune(signs[d.IntN(len(signs))])
	}
	return out.String()
}

// pick is up to so many of the pieces, one behind the other.
func (d dice) pick(pieces []string, most int) string {
	var out strings.Builder
	for range d.IntN(most + 1) {
		out.WriteString(pieces[d.IntN(len(pieces))])
	}
	return out.String()
}

func (d dice) name() string {
	names := []string{"a", "b", "c", "body", "_", "_x.y-z", "A1", "Z", "abcdefghijkl", "stream", "x2", "id"}
	return names[d.IntN(len(names))]
}

func (d dice) space() string {
	spaces := []string{"", "", "urn:q", "urn:<r>", "'", "\n"}
	return spaces[d.IntN(len(spaces))]
}

func (d dice) attrs() []impl.Attr {
	var list []impl.Attr
	for range d.IntN(4) {
		name := d.name()
		at, there := slices.BinarySearchFunc(list, name, func(a impl.Attr, n string) int { return strings.Compare(a.Name, n) })
		if !there {
			list = slices.Insert(list, at, impl.Attr{Name: name, Text: d.text(5)})
		}
	}
	return list
}

// tree is nodes that are a tree, but that there may be too many bytes of them.
func (d dice) tree() []impl.Node {
	list := []impl.Node{{Up: -1, Name: d.name(), Space: d.space(), Attrs: d.attrs()}}
	return d.inside(list, 0, 1)
}

func (d dice) inside(list []impl.Node, up, deep int) []impl.Node {
	text := false
	for range d.IntN(5) {
		if len(list) == impl.NodeMax {
			return list
		}
		if s := d.text(6); s != "" && !text && d.IntN(2) == 0 {
			list = append(list, impl.Node{Up: up, Text: s})
			text = true
			continue
		}
		if deep == impl.DeepMax {
			continue
		}
		space := list[up].Space
		if d.IntN(3) == 0 {
			space = d.space()
		}
		list = append(list, impl.Node{Up: up, Name: d.name(), Space: space, Attrs: d.attrs()})
		list = d.inside(list, len(list)-1, deep+1)
		text = false
	}
	return list
}

func sameTree(a, b []impl.Node) bool {
	return slices.EqualFunc(a, b, func(x, y impl.Node) bool {
		return x.Up == y.Up && x.Name == y.Name && x.Space == y.Space && x.Text == y.Text && slices.Equal(x.Attrs, y.Attrs)
	})
}

func cloneTree(list []impl.Node) []impl.Node {
	list = slices.Clone(list)
	for i := range list {
		list[i].Attrs = slices.Clone(list[i].Attrs)
	}
	return list
}
