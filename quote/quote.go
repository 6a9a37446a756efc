// Package quote is layer 2: string literals and labels. See shared/doc/02-quote.md.
package quote

import (
	"iter"
	"strings"

	"configlang/api"
)

// digits are the hexadecimal digits that Quote writes.
const digits = "0123456789abcdef"

// Quote returns the literal of s.
func Quote(s string) string {
	var b strings.Builder
	b.Grow(len(s) + 2)
	b.WriteByte('"')
	for part := range escapes(s) {
		b.WriteString(part)
	}
	b.WriteByte('"')
	return b.String()
}

// Unquote returns the string that a literal denotes.
func Unquote(s string) (string, api.Fault) {
	switch {
	case len(s) > api.MaxText:
		return "", api.Fault{Errno: api.ErrSize}
	case s == "" || s[0] != '"':
		return "", syntaxFault(0)
	}
	var b strings.Builder
	at := 1
scan:
	for at < len(s) {
		switch c := s[at]; {
		case c == '"':
			break scan
		case c == '\\':
			denoted, n := escape(s[at:])
			if n == 0 {
				return "", syntaxFault(at)
			}
			b.WriteByte(denoted)
			at += n
		case !printable(c):
			return "", syntaxFault(at)
		default:
			b.WriteByte(c)
			at++
		}
	}
	// The closing quote must be there, and be the last byte.
	if at != len(s)-1 {
		return "", syntaxFault(min(at+1, len(s)))
	}
	return b.String(), api.Fault{}
}

// Ident reports whether s is an identifier.
func Ident(s string) bool {
	if len(s) > api.MaxName || reserved(s) {
		return false
	}
	if s != "" && (s[0] == '#' || s[0] == '_') {
		s = s[1:]
	}
	if s == "" || !letter(s[0]) {
		return false
	}
	for i := range len(s) {
		if c := s[i]; !letter(c) && !('0' <= c && c <= '9') && c != '_' {
			return false
		}
	}
	return true
}

// Label returns s as a label: an identifier as it is, any other string as a literal.
func Label(s string) string {
	if Ident(s) {
		return s
	}
	return Quote(s)
}

// Unlabel returns the string that a label denotes.
func Unlabel(s string) (string, api.Fault) {
	if Ident(s) {
		return s, api.Fault{}
	}
	return Unquote(s)
}

// escapes yields, for each byte of s, what stands for it in a literal.
func escapes(s string) iter.Seq[string] {
	return func(yield func(string) bool) {
		for i := range len(s) {
			if !yield(written(s[i : i+1])) {
				return
			}
		}
	}
}

// written returns what stands for a string of one byte in a literal.
func written(s string) string {
	switch c := s[0]; {
	case c == '"' || c == '\\':
		return "\\" + s
	case c == '\n':
		return "\\n"
	case c == '\t':
		return "\\t"
	case c == '\r':
		return "\\r"
	case !printable(c):
		return "\\x" + digits[c>>4:c>>4+1] + digits[c&15:c&15+1]
	}
	return s
}

// escape returns the byte that the escape at the beginning of s denotes, and the length of the escape, or 0 if there is none; s begins with a backslash.
func escape(s string) (byte, int) {
	if len(s) < 2 {
		return 0, 0
	}
	switch c := s[1]; c {
	case '"', '\\':
		return c, 2
	case 'n':
		return '\n', 2
	case 't':
		return '\t', 2
	case 'r':
		return '\r', 2
	case 'x':
		return hexEscape(s)
	}
	return 0, 0
}

// hexEscape is escape for an s that begins with a backslash and x.
func hexEscape(s string) (byte, int) {
	if len(s) < 4 {
		return 0, 0
	}
	hi, lo := digit(s[2]), digit(s[3])
	if hi < 0 || lo < 0 {
		return 0, 0
	}
	return byte(hi<<4 | lo), 4
}

// digit returns the number of a hexadecimal digit of either case, or -1.
func digit(c byte) int {
	switch {
	case '0' <= c && c <= '9':
		return int(c - '0')
	case 'a' <= c && c <= 'f':
		return int(c-'a') + 10
	case 'A' <= c && c <= 'F':
		return int(c-'A') + 10
	}
	return -1
}

// printable reports whether c may stand in a literal (a quote and a backslash only as an escape).
func printable(c byte) bool {
	return 32 <= c && c <= 126
}

// letter reports whether c is a letter.
func letter(c byte) bool {
	return 'A' <= c && c <= 'Z' || 'a' <= c && c <= 'z'
}

// reserved reports whether s is a word of the language.
func reserved(s string) bool {
	switch s {
	case "null", "true", "false", "bool", "int", "number", "string", "let", "if", "for", "in", "package", "import":
		return true
	}
	return false
}

// syntaxFault returns the fault of a byte that is not permitted.
func syntaxFault(at int) api.Fault {
	return api.Fault{Errno: api.ErrSyntax, At: at}
}
