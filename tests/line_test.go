package tests

import (
	"math"
	"slices"
	"strconv"
	"strings"
	"testing"

	"loop.example/hubbub/impl"
)

// The limits are the document's: other tests take them by name.
func TestLineNumbers(t *testing.T) {
	if impl.QueueMax != 8 || impl.TellMax != 3000 || impl.CountMod != 256 {
		t.Error(impl.QueueMax, impl.TellMax, impl.CountMod)
	}
}

// told is so many texts, each another one.
func told(many int) []string {
	var list []string
	for i := range many {
		list = append(list, "t"+strconv.Itoa(i))
	}
	return list
}

func sameLine(a, b impl.Line) bool {
	return a.Base == b.Base && a.Got == b.Got && a.Over == b.Over && slices.Equal(a.Queue, b.Queue)
}

func isNoLine(l impl.Line) bool {
	return sameLine(l, impl.Line{})
}

// linesOk is lines at each end of their counts, empty, full and between, and over.
func linesOk() []impl.Line {
	var list []impl.Line
	for _, base := range []int{0, 1, 7, 8, 9, 127, 128, 246, 247, 248, 249, 254, 255} {
		for many := range 9 {
			list = append(list, impl.Line{Base: base, Queue: told(many), Got: 255 - base})
		}
		list = append(list, impl.Line{Base: base, Got: base, Over: true}, impl.Line{Base: base, Queue: []string{}, Over: true})
	}
	long := strings.Repeat("x", 3000)
	return append(list, impl.Line{Queue: []string{long}}, impl.Line{Queue: slices.Repeat([]string{long}, 8)}, impl.Line{Queue: []string{"", "\x00", "\xff", ""}}, impl.Line{Queue: slices.Repeat([]string{""}, 8), Got: 255})
}

func linesNotOk() []impl.Line {
	tooMuch := strings.Repeat("x", 3001)
	list := []impl.Line{
		{Queue: told(9)}, {Queue: told(300)}, {Queue: slices.Repeat([]string{""}, 9)},
		{Over: true, Queue: told(1)}, {Over: true, Queue: told(8)}, {Over: true, Queue: told(9)}, {Over: true, Queue: []string{""}},
		{Queue: []string{tooMuch}}, {Over: true, Queue: []string{tooMuch}},
	}
	for _, n := range []int{-1, 256, 257, 512, -256, math.MinInt, math.MaxInt} {
		list = append(list, impl.Line{Base: n}, impl.Line{Got: n}, impl.Line{Base: n, Got: n, Queue: told(3)}, impl.Line{Base: n, Over: true}, impl.Line{Got: n, Over: true})
	}
	for i := range 8 {
		queue := told(8)
		queue[i] = tooMuch
		list = append(list, impl.Line{Base: 5, Queue: queue})
	}
	return list
}

func TestLineOk(t *testing.T) {
	for _, l := range linesOk() {
		if !impl.LineOk(l) {
			t.Errorf("LineOk(%+v) is false", l)
		}
	}
	for _, l := range linesNotOk() {
		if impl.LineOk(l) {
			t.Errorf("LineOk(%+v) is true", l)
		}
	}
	for n := range 256 {
		if !impl.LineOk(impl.Line{Base: n}) || !impl.LineOk(impl.Line{Got: n}) {
			t.Errorf("LineOk of the count %d is false", n)
		}
	}
}

func TestOfALineThatIsNotOkThereIsNothing(t *testing.T) {
	for _, l := range linesNotOk() {
		if got := impl.LinePut(l, "x"); !isNoLine(got) {
			t.Errorf("LinePut(%+v) is %+v", l, got)
		}
		for _, h := range []int{0, 1, 255, -1, 256, l.Base} {
			if got, ok := impl.LineAck(l, h); ok || !isNoLine(got) {
				t.Errorf("LineAck(%+v, %d) is %+v, %v", l, h, got, ok)
			}
		}
		if got := impl.LineSent(l); got != -1 {
			t.Errorf("LineSent(%+v) is %d", l, got)
		}
		if got := impl.LineHeard(l); !isNoLine(got) {
			t.Errorf("LineHeard(%+v) is %+v", l, got)
		}
	}
}

func TestP39WhatIsToldWaitsBehindAll(t *testing.T) {
	for _, l := range linesOk() {
		for _, text := range []string{"", "x", "t0", "\xff\x00", strings.Repeat("y", 3000)} {
			got := impl.LinePut(l, text)
			if !impl.LineOk(got) || got.Base != l.Base || got.Got != l.Got {
				t.Errorf("LinePut(%+v, %q) is %+v", l, text, got)
			}
			if l.Over || len(l.Queue) == 8 {
				if !got.Over || len(got.Queue) != 0 {
					t.Errorf("LinePut(%+v, %q) is %+v", l, text, got)
				}
				continue
			}
			if got.Over || !slices.Equal(got.Queue, append(slices.Clone(l.Queue), text)) || impl.LineSent(got) != (impl.LineSent(l)+1)%256 {
				t.Errorf("LinePut(%+v, %q) is %+v", l, text, got)
			}
		}
	}
}

func TestATextThatIsTooLongIsNotTold(t *testing.T) {
	for _, l := range linesOk() {
		for _, size := range []int{3001, 3002, 10000} {
			if got := impl.LinePut(l, strings.Repeat("x", size)); !isNoLine(got) {
				t.Errorf("LinePut(%+v) of %d bytes is %+v", l, size, got)
			}
		}
	}
}

// A line that was told too much stays so, whatever else is told or comes.
func TestOverIsForGood(t *testing.T) {
	l := impl.Line{Base: 250, Got: 3}
	for i := range 9 {
		if want := (impl.Line{Base: 250, Got: 3, Queue: told(i)}); !sameLine(l, want) {
			t.Fatalf("behind %d it is %+v", i, l)
		}
		l = impl.LinePut(l, "t"+strconv.Itoa(i))
	}
	over := impl.Line{Base: 250, Got: 3, Over: true}
	for range 3 {
		if !sameLine(l, over) {
			t.Fatal(l)
		}
		l = impl.LinePut(l, "more")
	}
	for h := -1; h < 258; h++ {
		if got, ok := impl.LineAck(over, h); ok || !sameLine(got, over) {
			t.Errorf("LineAck(%+v, %d) is %+v, %v", over, h, got, ok)
		}
	}
	if impl.LineSent(over) != 250 || !sameLine(impl.LineHeard(over), impl.Line{Base: 250, Got: 4, Over: true}) {
		t.Error(impl.LineSent(over), impl.LineHeard(over))
	}
}

func TestP40WhatCameWaitsNoMore(t *testing.T) {
	for _, l := range linesOk() {
		came := 0
		for h := -300; h < 600; h++ {
			got, ok := impl.LineAck(l, h)
			n := ((h-l.Base)%256 + 256) % 256
			if want := !l.Over && h >= 0 && h < 256 && n <= len(l.Queue); ok != want {
				t.Fatalf("LineAck(%+v, %d) is %v", l, h, ok)
			}
			if !ok {
				if !sameLine(got, l) {
					t.Fatalf("LineAck(%+v, %d) is %+v, false", l, h, got)
				}
				continue
			}
			came++
			if want := (impl.Line{Base: h, Queue: l.Queue[n:], Got: l.Got}); !sameLine(got, want) || impl.LineSent(got) != impl.LineSent(l) || !impl.LineOk(got) {
				t.Fatalf("LineAck(%+v, %d) is %+v", l, h, got)
			}
			if again, ok := impl.LineAck(got, h); !ok || !sameLine(again, got) {
				t.Fatalf("LineAck(%+v, %d) is %+v, %v", got, h, again, ok)
			}
		}
		if want := map[bool]int{false: len(l.Queue) + 1, true: 0}[l.Over]; came != want {
			t.Errorf("%+v hears %d counts, not %d", l, came, want)
		}
		for _, h := range []int{math.MinInt, math.MaxInt, math.MinInt + l.Base, math.MaxInt - 255} {
			if got, ok := impl.LineAck(l, h); ok || !sameLine(got, l) {
				t.Errorf("LineAck(%+v, %d) is %+v, %v", l, h, got, ok)
			}
		}
	}
}

func TestP41AsManyWereToldAsCameAndWait(t *testing.T) {
	for _, l := range linesOk() {
		sent := impl.LineSent(l)
		if sent != (l.Base+len(l.Queue))%256 {
			t.Errorf("LineSent(%+v) is %d", l, sent)
		}
		all, ok := impl.LineAck(l, sent)
		if ok == l.Over || len(all.Queue) != 0 || all.Base != sent {
			t.Errorf("LineAck(%+v, %d) is %+v, %v", l, sent, all, ok)
		}
		if got, ok := impl.LineAck(l, (sent+1)%256); ok || !sameLine(got, l) {
			t.Errorf("LineAck(%+v, %d) is %+v, %v", l, (sent+1)%256, got, ok)
		}
		if got, ok := impl.LineAck(l, (l.Base+255)%256); ok || !sameLine(got, l) {
			t.Errorf("LineAck(%+v, %d) is %+v, %v", l, (l.Base+255)%256, got, ok)
		}
	}
}

func TestP42WhatCameIsCountedRoundAndRound(t *testing.T) {
	for _, l := range linesOk() {
		x := l
		for i := range 256 {
			if !sameLine(x, impl.Line{Base: l.Base, Queue: l.Queue, Got: (l.Got + i) % 256, Over: l.Over}) {
				t.Fatalf("%+v behind LineHeard %d times is %+v", l, i, x)
			}
			x = impl.LineHeard(x)
		}
		if !sameLine(x, l) {
			t.Errorf("%+v behind LineHeard 256 times is %+v", l, x)
		}
	}
}

// What is told and comes by turns goes round the counts more than once.
func TestALineThatGoesRound(t *testing.T) {
	d := newDice()
	l, sent, base := impl.Line{}, 0, 0
	for range 5000 {
		for range d.IntN(9 - (sent - base)) {
			l = impl.LinePut(l, "t"+strconv.Itoa(sent))
			sent++
		}
		base += d.IntN(sent - base + 1)
		got, ok := impl.LineAck(l, base%256)
		if !ok || got.Base != base%256 || got.Over || impl.LineSent(got) != sent%256 || len(got.Queue) != sent-base {
			t.Fatalf("LineAck(%+v, %d) is %+v, %v", l, base%256, got, ok)
		}
		for i, text := range got.Queue {
			if text != "t"+strconv.Itoa(base+i) {
				t.Fatalf("%+v has %s where %d waits", got, text, base+i)
			}
		}
		l = got
	}
	if sent < 2560 {
		t.Errorf("only %d were told", sent)
	}
}

func TestLineSharesNoMemory(t *testing.T) {
	for many := range 9 {
		for _, base := range []int{0, 5, 255} {
			queue := append(told(many), "mark", "mark")
			l := impl.Line{Base: base, Queue: queue[:many]}
			want := slices.Clone(queue)
			text := strings.Clone("more")
			ack, _ := impl.LineAck(l, (base+many/2)%256)
			none, _ := impl.LineAck(l, (base+9)%256)
			for _, got := range []impl.Line{impl.LinePut(l, text), ack, none, impl.LineHeard(l)} {
				if shareText(got.Queue, append(slices.Clone(l.Queue), text)) {
					t.Errorf("%+v shares a text with %+v", got, l)
				}
				for i := range got.Queue[:cap(got.Queue)] {
					got.Queue[:cap(got.Queue)][i] = "changed"
				}
				if !slices.Equal(queue, want) {
					t.Fatalf("%+v shares memory with %+v", got, l)
				}
			}
		}
	}
}
