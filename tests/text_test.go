package tests

import (
	"math"
	"strconv"
	"strings"
	"testing"

	"loop.example/hubbub/impl"
)

// The first and the last number of each range of signs.
var signEdges = []int{9, 10, 32, 33, 127, 128, 2047, 2048, 55294, 55295, 57344, 57345, 65532, 65533, 65536, 65537, 1114110, 1114111}

// Numbers just beside the ranges, and far from them.
var noSigns = []int{math.MinInt, -1114111, -65, -1, 0, 1, 8, 11, 12, 13, 31, 55296, 56320, 57343, 65534, 65535, 1114112, 2097151, 1 << 21, 9999999, 10000000, 1 << 32, 1<<32 + 65, math.MaxInt}

// isSign is the document's list of signs, told once more.
func isSign(n int) bool {
	return n == 9 || n == 10 || 32 <= n && n <= 55295 || 57344 <= n && n <= 65533 || 65536 <= n && n <= 1114111
}

var okTexts = []string{
	"", "a", "A b", "<", ">", "&", "'", "\"", "\t", "\n", " ", "\x7f", ";", "#",
	"a<b&'c'\n", "&amp;", "&#10;", "<a b='1'>\"x\"</a>", "\t\n\t\n",
	"é", "\u0080", "\u07ff", "\u0800", "\ud7ff", "\ue000", "\ufffd", "\U00010000", "\U0001fffe", "\U0010ffff",
	"x\ufffdy", "wörter & zahlen <1>", "\U0001f600'\U0001f600",
}

var badTexts = []string{
	"\x00", "\x08", "\x0b", "\x0c", "\x0d", "\x1f", "a\x00b",
	"\x80", "\xbf", "\xff", "\xfe", "\xf8\x88\x80\x80\x80",
	"\xc0\x80", "\xc0\xbc", "\xc1\xbf", "\xe0\x80\x80", "\xe0\x9f\xbf", "\xf0\x80\x80\x80", "\xf0\x8f\xbf\xbf",
	"\xc3", "\xe2\x82", "\xe2", "\xf0\x9f\x98", "\xf0\x9f", "\xf0", "\xc3(", "\xe2\x82(", "\xe2(\xa1", "\xf0\x9f\x98(",
	"\xed\xa0\x80", "\xed\xbf\xbf", "\xef\xbf\xbe", "\xef\xbf\xbf", "\xf4\x90\x80\x80", "\xf5\x80\x80\x80", "\xf7\xbf\xbf\xbf",
	"é\xa9", "ok\xed\xa0\x80ok",
}

func TestTextOk(t *testing.T) {
	for _, s := range okTexts {
		if !impl.TextOk(s) {
			t.Errorf("TextOk(%q) is false", s)
		}
	}
	for _, s := range badTexts {
		if impl.TextOk(s) || impl.TextOk("ab"+s) || impl.TextOk(s+"ab") {
			t.Errorf("TextOk of %q, or with letters around it, is true", s)
		}
	}
	for c := range 256 {
		if impl.TextOk(string([]byte{byte(c)})) != (c < 128 && isSign(c)) {
			t.Errorf("TextOk of the byte %d", c)
		}
	}
}

func TestSignPut(t *testing.T) {
	for n := -10; n < 1114200; n++ {
		want := ""
		if isSign(n) {
			want = string(rune(n))
		}
		if got := impl.SignPut(n); got != want {
			t.Fatalf("SignPut(%d) is %q, not %q", n, got, want)
		}
	}
	for _, n := range noSigns {
		if got := impl.SignPut(n); got != "" {
			t.Errorf("SignPut(%d) is %q", n, got)
		}
	}
	bytes := map[int]string{9: "\t", 65: "A", 233: "\xc3\xa9", 8364: "\xe2\x82\xac", 65533: "\xef\xbf\xbd", 65536: "\xf0\x90\x80\x80", 1114111: "\xf4\x8f\xbf\xbf"}
	for n, want := range bytes {
		if got := impl.SignPut(n); got != want {
			t.Errorf("SignPut(%d) is %q, not %q", n, got, want)
		}
	}
}

func TestEscape(t *testing.T) {
	cases := [][2]string{
		{"", ""}, {"plain text", "plain text"}, {"&", "&amp;"}, {"<", "&lt;"}, {">", "&gt;"}, {"\"", "&quot;"}, {"'", "&apos;"},
		{"\n", "&#10;"}, {"\t", "&#9;"}, {" ", " "}, {"\x7f", "\x7f"}, {"&amp;", "&amp;amp;"}, {"é\U0001f600", "é\U0001f600"},
		{"a<b&'c'\n", "a&lt;b&amp;&apos;c&apos;&#10;"},
	}
	for _, c := range cases {
		if got := impl.Escape(c[0]); got != c[1] {
			t.Errorf("Escape(%q) is %q, not %q", c[0], got, c[1])
		}
	}
	for _, s := range badTexts {
		if impl.Escape(s) != "" || impl.Escape("ab"+s) != "" {
			t.Errorf("Escape of %q is not empty", s)
		}
	}
}

func TestUnescape(t *testing.T) {
	cases := [][2]string{
		{"", ""}, {"a b", "a b"}, {">'\"", ">'\""}, {"\t\n", "\t\n"}, {"#;", "#;"}, {"é", "é"},
		{"&amp;&lt;&gt;&quot;&apos;", "&<>\"'"}, {"&amp;lt;", "&lt;"}, {"&#60;&#38;", "<&"},
		{"&#9;", "\t"}, {"&#x9;", "\t"}, {"&#xa;", "\n"}, {"&#xA;", "\n"}, {"&#65;", "A"}, {"&#065;", "A"},
		{"&#x1f600;", "\U0001f600"}, {"&#x1F600;", "\U0001f600"}, {"&#x1F60a;", "\U0001f60a"},
		{"&#1114111;", "\U0010ffff"}, {"&#x10FFFF;", "\U0010ffff"}, {"&#x10ffff;", "\U0010ffff"},
		{"&#0000065;", "A"}, {"&#x000041;", "A"}, {"x&#0000065;y", "xAy"},
	}
	for _, c := range cases {
		if got, ok := impl.Unescape(c[0]); !ok || got != c[1] {
			t.Errorf("Unescape(%q) is %q, %v, not %q", c[0], got, ok, c[1])
		}
	}
	bad := []string{
		"<", "a<b", "&", "&&", "& ", "&;", "&a", "&amp", "amp;&", "&amp &amp;", "&Amp;", "&AMP;", "&nbsp;", "&ampamp;", "&lt;&",
		"&#", "&#;", "&#x;", "&#x", "&x41;", "&#X41;", "&##65;", "&#6#5;", "&#+65;", "&#-65;", "&# 65;", "&#65 ;", "&#6_5;", "&#6.5;",
		"&#a;", "&#4G;", "&#x4G;", "&#x4g;", "&#xx41;", "&#0x41;",
		"&#0;", "&#8;", "&#11;", "&#13;", "&#31;", "&#x1F;", "&#55296;", "&#xD800;", "&#xDFFF;", "&#65534;", "&#65535;", "&#xFFFE;", "&#1114112;", "&#x110000;", "&#9999999;",
		"&#00000065;", "&#x0000041;", "&#10000000;", "&aaaaaaaa;", "&aaaaaaaaa;",
	}
	for _, s := range append(bad, badTexts...) {
		if got, ok := impl.Unescape(s); ok || got != "" {
			t.Errorf("Unescape(%q) is %q, %v", s, got, ok)
		}
		if got, ok := impl.Unescape("x" + s); ok || got != "" {
			t.Errorf("Unescape(%q) is %q, %v", "x"+s, got, ok)
		}
	}
}

func TestP1TextComesBack(t *testing.T) {
	dice := newDice()
	texts := append([]string{}, okTexts...)
	for range 500 {
		texts = append(texts, dice.text(12))
	}
	for _, n := range signEdges {
		texts = append(texts, impl.SignPut(n))
	}
	for _, s := range texts {
		e := impl.Escape(s)
		if got, ok := impl.Unescape(e); !ok || got != s {
			t.Errorf("Unescape of Escape of %q is %q, %v", s, got, ok)
		}
		if strings.ContainsAny(e, "<>'\"\n\t") || !impl.TextOk(e) {
			t.Errorf("Escape(%q) is %q", s, e)
		}
	}
}

func TestP2WhatStandsIsSigns(t *testing.T) {
	dice := newDice()
	pieces := []string{"a", ">", "'", "é", "\U0001f600", "&amp;", "&lt;", "&#10;", "&#x41;", "&#13;", "&#xFFFF;", "\xff", "\xc3", "&", ";", "<", "\n", "\r", "\ufffd"}
	seen := 0
	for range 3000 {
		s := dice.pick(pieces, 5)
		got, ok := impl.Unescape(s)
		if !ok {
			if got != "" {
				t.Errorf("Unescape(%q) is %q beside false", s, got)
			}
			continue
		}
		seen++
		if again, ok := impl.Unescape(impl.Escape(got)); !impl.TextOk(got) || !ok || again != got {
			t.Errorf("Unescape(%q) is %q, and of its Escape %q", s, got, again)
		}
	}
	if seen < 100 {
		t.Errorf("only %d texts were read", seen)
	}
}

func TestP3SignByItsNumber(t *testing.T) {
	check := func(n int) {
		want := impl.SignPut(n)
		got, ok := impl.Unescape("&#" + strconv.Itoa(n) + ";")
		if got != want || ok != (want != "") {
			t.Fatalf("of the number %d: %q, %v, not %q", n, got, ok, want)
		}
	}
	for n := -20; n < 70000; n++ {
		check(n)
	}
	for n := 70000; n < 1200000; n += 997 {
		check(n)
	}
	for _, n := range append(append([]int{}, signEdges...), noSigns...) {
		check(n)
	}
	for _, n := range signEdges {
		hex := strconv.FormatInt(int64(n), 16)
		for _, h := range []string{hex, strings.ToUpper(hex)} {
			if got, ok := impl.Unescape("&#x" + h + ";"); !ok || got != string(rune(n)) {
				t.Errorf("&#x%s; is %q, %v", h, got, ok)
			}
		}
	}
}

func TestP4TwoPiecesAsOne(t *testing.T) {
	dice := newDice()
	texts := append([]string{}, okTexts...)
	for range 40 {
		texts = append(texts, dice.text(6))
	}
	for _, a := range texts {
		for _, b := range texts {
			if !impl.TextOk(a+b) || impl.Escape(a+b) != impl.Escape(a)+impl.Escape(b) {
				t.Errorf("%q and %q as one", a, b)
			}
		}
		for _, b := range badTexts {
			if impl.TextOk(a+b) || impl.Escape(a+b) != "" {
				t.Errorf("%q and %q as one", a, b)
			}
		}
	}
}

func TestP5SignCutOff(t *testing.T) {
	dice := newDice()
	texts := append([]string{}, okTexts...)
	for range 200 {
		texts = append(texts, dice.text(8))
	}
	for _, s := range texts {
		begins := map[int]bool{len(s): true}
		for at := range s {
			begins[at] = true
		}
		for at := 0; at <= len(s); at++ {
			if impl.TextOk(s[:at]) != begins[at] || impl.TextOk(s[at:]) != begins[at] {
				t.Errorf("%q cut at %d", s, at)
			}
		}
	}
}
