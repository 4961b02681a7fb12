package impl

import (
	"iter"
	"strconv"
	"strings"
	"unicode/utf8"
)

// How a part of marked text stands there: as a whole, cut off by the end of the text, or so that it never can be one.
const (
	partWhole = iota
	partCut
	partWrong
)

// partMax is how many bytes a part that begins with & has at most.
const partMax = 10

// textPart is a part of marked text: the sign for which it stands, and how many bytes it takes.
type textPart struct {
	sign  int
	size  int
	state int
}

// isRaw says whether a part is a byte that stands for itself: an entity of the same sign is longer, and ends nothing.
func (p textPart) isRaw(c byte) bool {
	return p.state == partWhole && p.size == 1 && p.sign == int(c)
}

// TextOk says whether a text is signs that can stand in marked text.
func TextOk(s string) bool {
	if !utf8.ValidString(s) {
		return false
	}
	for _, r := range s {
		if !isSign(int(r)) {
			return false
		}
	}
	return true
}

// SignPut is a sign in UTF-8.
func SignPut(n int) string {
	if !isSign(n) {
		return ""
	}
	return string(rune(n))
}

// Escape is a text as it stands in marked text.
func Escape(s string) string {
	if !TextOk(s) {
		return ""
	}
	var out strings.Builder
	for _, r := range s {
		out.WriteString(escapeSign(int(r)))
	}
	return out.String()
}

// Unescape is what stands in marked text.
func Unescape(s string) (string, bool) {
	var out strings.Builder
	for p := range textParts(s) {
		if p.state != partWhole || p.isRaw('<') {
			return "", false
		}
		out.WriteString(SignPut(p.sign))
	}
	return out.String(), true
}

func isSign(n int) bool {
	switch {
	case n == 9, n == 10:
		return true
	case 32 <= n && n <= 55295:
		return true
	case 57344 <= n && n <= 65533:
		return true
	}
	return 65536 <= n && n <= 1114111
}

func escapeSign(n int) string {
	switch n {
	case '&':
		return "&amp;"
	case '<':
		return "&lt;"
	case '>':
		return "&gt;"
	case '"':
		return "&quot;"
	case '\'':
		return "&apos;"
	case '\n':
		return "&#10;"
	case '\t':
		return "&#9;"
	}
	return SignPut(n)
}

func entities() map[string]int {
	return map[string]int{"amp": '&', "lt": '<', "gt": '>', "quot": '"', "apos": '\''}
}

// textParts is the parts of a text, one after the other. One that is not whole is the last: what is behind it means nothing.
func textParts(s string) iter.Seq[textPart] {
	return func(yield func(textPart) bool) {
		for at := 0; at < len(s); {
			p := firstPart(s[at:])
			if !yield(p) || p.state != partWhole {
				return
			}
			at += p.size
		}
	}
}

// firstPart is the part with which a text that is not empty begins.
func firstPart(s string) textPart {
	if s[0] == '&' {
		return entityPart(s)
	}
	if !utf8.FullRuneInString(s) {
		return textPart{state: partCut}
	}
	r, size := utf8.DecodeRuneInString(s)
	// The library tells a wrong byte by a sign that may also stand there, in three bytes.
	if r == utf8.RuneError && size == 1 || !isSign(int(r)) {
		return textPart{state: partWrong}
	}
	return textPart{sign: int(r), size: size}
}

// entityPart is the part with which a text begins that begins with &.
func entityPart(s string) textPart {
	for k := 1; k < len(s); k++ {
		if s[k] == ';' {
			return entityWhole(s[:k+1])
		}
		if k+1 == partMax || !entityByte(s[k]) {
			return textPart{state: partWrong}
		}
	}
	return textPart{state: partCut}
}

func entityWhole(s string) textPart {
	sign := entitySign(s[1 : len(s)-1])
	if !isSign(sign) {
		return textPart{state: partWrong}
	}
	return textPart{sign: sign, size: len(s)}
}

// entitySign is the number that stands between & and ; and -1 if none does.
func entitySign(name string) int {
	if figures, ok := strings.CutPrefix(name, "#x"); ok {
		return figuresSign(figures, 16)
	}
	if figures, ok := strings.CutPrefix(name, "#"); ok {
		return figuresSign(figures, 10)
	}
	if sign, ok := entities()[name]; ok {
		return sign
	}
	return -1
}

func figuresSign(figures string, base int) int {
	n, err := strconv.ParseUint(figures, base, 31)
	if err != nil {
		return -1
	}
	return int(n)
}

func entityByte(c byte) bool {
	return 'a' <= c && c <= 'z' || 'A' <= c && c <= 'F' || isFigure(c) || c == '#'
}

func isFigure(c byte) bool {
	return '0' <= c && c <= '9'
}
