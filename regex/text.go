package regex

import (
	"slices"
	"strings"

	"configlang/api"
	"configlang/byteset"
)

// How tightly a text binds.
const (
	loose  = 0 // alternatives
	middle = 1 // a concatenation
	tight  = 2 // a piece
)

// written is a text and how tightly it binds.
type written struct {
	text  string
	binds int
}

// write returns the text of a valid expression. It is parsed to an expression with no more levels.
func write(r api.Regex) written {
	var parts []written
	for _, sub := range r.Subs {
		parts = append(parts, write(sub))
	}
	switch r.Kind {
	case api.Empty:
		return written{"()", tight}
	case api.OneOf:
		return written{setText(r.Set), tight}
	case api.Cat:
		return writeCat(parts)
	case api.Alt:
		return writeAlt(parts)
	case api.Star:
		return written{within(parts[0], tight) + "*", tight}
	}
	return written{"[]", tight}
}

// writeCat returns the text of a concatenation.
func writeCat(parts []written) written {
	x := within(parts[0], tight)
	if len(parts) == 2 && parts[1].text == x+"*" {
		return written{x + "+", tight}
	}
	var b strings.Builder
	for _, part := range parts {
		b.WriteString(within(part, middle))
	}
	return written{b.String(), middle}
}

// writeAlt returns the text of alternatives.
func writeAlt(parts []written) written {
	isEmpty := func(part written) bool { return part.text == "()" }
	if i := slices.IndexFunc(parts, isEmpty); i >= 0 && len(parts) == 2 {
		return written{within(parts[1-i], tight) + "?", tight}
	}
	var l []string
	for _, part := range parts {
		l = append(l, part.text)
	}
	return written{strings.Join(l, "|"), loose}
}

// within returns a text in parentheses, unless it binds tightly enough.
func within(part written, binds int) string {
	if part.binds < binds {
		return "(" + part.text + ")"
	}
	return part.text
}

// setText returns the text of a byte of a set.
func setText(s api.Bytes) string {
	switch byteset.Len(s) {
	case 0:
		return "[]"
	case 1:
		b, _ := byteset.Least(s)
		return byteText(b, "")
	case 256:
		return "."
	}
	for _, c := range []byte("dws") {
		if class, _ := classOf(c); class == s {
			return `\` + string([]byte{c})
		}
	}
	text := "[" + rangesText(s) + "]"
	if other := "[^" + rangesText(byteset.Not(s)) + "]"; len(other) < len(text) {
		text = other
	}
	return text
}

// rangesText returns the elements of a set as items in brackets.
func rangesText(s api.Bytes) string {
	var b strings.Builder
	for _, r := range byteset.Ranges(s) {
		lo, hi := byteText(r[0], "^-"), byteText(r[1], "^-")
		b.WriteString(lo)
		switch r[1] - r[0] {
		case 0:
		case 1:
			b.WriteString(hi)
		default:
			b.WriteString("-" + hi)
		}
	}
	return b.String()
}

// byteText returns the text of a byte, where those of more stand for themselves only behind a backslash, too.
func byteText(c byte, more string) string {
	s := string([]byte{c})
	switch {
	case c == '\n':
		return `\n`
	case c == '\t':
		return `\t`
	case c == '\r':
		return `\r`
	case strings.Contains(special+more, s):
		return `\` + s
	case plain(c):
		return s
	}
	const digits = "0123456789abcdef"
	return `\x` + digits[c>>4:c>>4+1] + digits[c&15:c&15+1]
}
