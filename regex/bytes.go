package regex

import (
	"strings"

	"configlang/api"
	"configlang/byteset"
)

// special are the bytes that stand for themselves only behind a backslash.
const special = `()[]{}|*+?.\`

// plain reports whether c stands for itself (in brackets, "^" and "-" do not).
func plain(c byte) bool {
	return 32 <= c && c <= 126 && strings.IndexByte(special, c) < 0
}

// escaped returns the byte that c denotes behind a backslash.
func escaped(c byte) (byte, bool) {
	switch c {
	case 'n':
		return '\n', true
	case 't':
		return '\t', true
	case 'r':
		return '\r', true
	}
	return c, strings.IndexByte(special+"-^", c) >= 0
}

// classOf returns the set that c denotes behind a backslash.
func classOf(c byte) (api.Bytes, bool) {
	digits := byteset.Of('0', '9')
	switch c {
	case 'd':
		return digits, true
	case 'w':
		return union(digits, byteset.Of('A', 'Z'), byteset.Of('a', 'z'), byteset.Of('_', '_')), true
	case 's':
		return union(byteset.Of('\t', '\n'), byteset.Of('\r', '\r'), byteset.Of(' ', ' ')), true
	}
	return api.Bytes{}, false
}

// union returns the union of sets.
func union(l ...api.Bytes) api.Bytes {
	var s api.Bytes
	for _, x := range l {
		s = byteset.Or(s, x)
	}
	return s
}
