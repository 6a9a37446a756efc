package quote_test

import (
	"strings"
	"testing"

	"configlang/api"
	"configlang/quote"
)

// allBytes returns a string of every byte.
func allBytes() string {
	var b strings.Builder
	for i := range 256 {
		b.WriteByte(byte(i))
	}
	return b.String()
}

// texts returns strings of all kinds.
func texts() []string {
	l := []string{"", "a", "a-b", "int", "_x1", "#d", "\"", "\\", "\\n", "a\n\"", "\\x41", "\x00", "\xff\xfe", "\u00e9", "\r\n\t", allBytes(), strings.Repeat("\\\"", 500), strings.Repeat("\xff", 1000)}
	for i := range 256 {
		l = append(l, string([]byte{byte(i)}), "a"+string([]byte{byte(i)})+"1")
	}
	return l
}

// TestQuote checks the literal of each byte (P2.1).
func TestQuote(t *testing.T) {
	for i := range 256 {
		want := string([]byte{byte(i)})
		switch {
		case i == '"' || i == '\\':
			want = "\\" + want
		case i == 10:
			want = "\\n"
		case i == 9:
			want = "\\t"
		case i == 13:
			want = "\\r"
		case i < 32 || i > 126:
			want = "\\x" + string("0123456789abcdef"[i/16]) + string("0123456789abcdef"[i%16])
		}
		if got := quote.Quote(string([]byte{byte(i)})); got != "\""+want+"\"" {
			t.Errorf("the literal of byte %d: %s", i, got)
		}
	}
	if got := quote.Quote("a\n\""); got != "\"a\\n\\\"\"" {
		t.Errorf("the literal of a string: %s", got)
	}
	if got := quote.Quote(""); got != "\"\"" {
		t.Errorf("the literal of the empty string: %s", got)
	}
}

// TestUnquote checks what literals denote (P2.2).
func TestUnquote(t *testing.T) {
	for s, want := range map[string]string{"\"\"": "", "\"'`~ \"": "'`~ ", "\"\\\"\\\\\"": "\"\\", "\"\\n\\t\\r\"": "\n\t\r", "\"\\x00\\x7f\\xFf\\xaB\\xA9\"": "\x00\x7f\xff\xab\xa9", "\"\\x414\"": "A4", "\"\\\\x41\"": "\\x41"} {
		if got, f := quote.Unquote(s); got != want || f != (api.Fault{}) {
			t.Errorf("Unquote(%s): %q, %v", s, got, f)
		}
	}
}

// TestUnquoteFaults checks the faults of texts that are no literals, and their offsets (P2.2).
func TestUnquoteFaults(t *testing.T) {
	for s, at := range map[string]int{
		"": 0, "a": 0, "a\"": 0, "\\": 0, "'a'": 0, "`a`": 0, " \"a\"": 0, "\x00": 0,
		"\"": 1, "\"a": 2, "\"a\\\"": 4, "\"\\x41": 5,
		"\"a\"b": 3, "\"a\" ": 3, "\"\"\"": 2, "\"\"\n": 2,
		"\"a\\q\"": 2, "\"a\\": 2, "\"\\x": 1, "\"\\x4": 1, "\"\\x4\"": 1, "\"\\xg0\"": 1, "\"\\x0g\"": 1, "\"\\x \"": 1, "\"\\X41\"": 1, "\"\\N\"": 1, "\"\\'\"": 1, "\"\\a\"": 1, "\"\\u0041\"": 1, "\"\\0\"": 1, "\"\\(a)\"": 1, "\"\\\n\"": 1,
		"\"\\x\x10\x11\"": 1, "\"\\x@`\"": 1, "\"\\x:/\"": 1,
		"\"\t\"": 1, "\"ab\n": 3, "\"\x1f\"": 1, "\"\x7f\"": 1, "\"\x80\"": 1, "\"\xff": 1,
		"\"\n\\q": 1, "\"\\q\n": 1, "\"a\"\n\\q": 3,
	} {
		if got, f := quote.Unquote(s); got != "" || f != (api.Fault{Errno: api.ErrSyntax, At: at}) {
			t.Errorf("Unquote(%q): %q, %v, want ErrSyntax at %d", s, got, f, at)
		}
	}
}

// TestUnquoteSize checks the limit of a literal (P2.2).
func TestUnquoteSize(t *testing.T) {
	long := "\"" + strings.Repeat("a", api.MaxText-2) + "\""
	if got, f := quote.Unquote(long); got != long[1:len(long)-1] || f != (api.Fault{}) {
		t.Errorf("a literal of MaxText bytes: %d bytes, %v", len(got), f)
	}
	for _, s := range []string{long + "a", "a" + long, strings.Repeat("\n", api.MaxText+1)} {
		if got, f := quote.Unquote(s); got != "" || f != (api.Fault{Errno: api.ErrSize}) {
			t.Errorf("a literal of more than MaxText bytes: %d bytes, %v", len(got), f)
		}
		if got, f := quote.Unlabel(s); got != "" || f != (api.Fault{Errno: api.ErrSize}) {
			t.Errorf("a label of more than MaxText bytes: %d bytes, %v", len(got), f)
		}
	}
}

// TestIdent checks identifiers, and that they are labels as they are (P2.3).
func TestIdent(t *testing.T) {
	for _, s := range []string{"a", "z", "A", "Z", "a0", "a9", "aZ_z0_", "_a", "_x1", "#a", "#A_", "_null", "#int", "Null", "nulls", "inn", "i", "f", strings.Repeat("a", 32), "_" + strings.Repeat("a", 31), "#" + strings.Repeat("z", 31)} {
		l, f := quote.Unlabel(s)
		if !quote.Ident(s) || quote.Label(s) != s || l != s || f != (api.Fault{}) {
			t.Errorf("%q is an identifier: %s, %q, %v", s, quote.Label(s), l, f)
		}
	}
	for _, s := range []string{"", "_", "#", "__", "##", "_#", "#_", "__a", "##a", "#_a", "_#a", "0", "0a", "_0", "#0", "a#", "a-", "a.b", "a b", " a", "a\n", "a\"", "a$", "a@", "a[", "a`", "a{", "a/", "a:", "\u00e9", "a\u00e9", "\xe9", "a\x00",
		"null", "true", "false", "bool", "int", "number", "string", "let", "if", "for", "in", "package", "import",
		strings.Repeat("a", 33), "_" + strings.Repeat("a", 32), "#" + strings.Repeat("a", 32)} {
		l, f := quote.Unlabel(quote.Label(s))
		if quote.Ident(s) || quote.Label(s) != quote.Quote(s) || l != s || f != (api.Fault{}) {
			t.Errorf("%q is no identifier: %s, %q, %v", s, quote.Label(s), l, f)
		}
	}
}

// TestUnlabelFaults checks that what is no label has the fault of Unquote (P2.3).
func TestUnlabelFaults(t *testing.T) {
	for s, at := range map[string]int{"1a": 0, "": 0, "_": 0, "int": 0, "a-b": 0, "\"a": 2, "\"a\\q\"": 2, "\"a\"b": 3} {
		if l, f := quote.Unlabel(s); l != "" || f != (api.Fault{Errno: api.ErrSyntax, At: at}) {
			t.Errorf("Unlabel(%q): %q, %v, want ErrSyntax at %d", s, l, f, at)
		}
	}
}

// TestLaws checks that literals and labels are parsed unchanged, and how literals are composed (P2.4).
func TestLaws(t *testing.T) {
	literals, labels := map[string]string{}, map[string]string{}
	for _, s := range texts() {
		literal, label := quote.Quote(s), quote.Label(s)
		if got, f := quote.Unquote(literal); got != s || f != (api.Fault{}) {
			t.Errorf("Unquote(Quote(%q)): %q, %v", s, got, f)
		}
		if got, f := quote.Unlabel(label); got != s || f != (api.Fault{}) {
			t.Errorf("Unlabel(Label(%q)): %q, %v", s, got, f)
		}
		if strings.ContainsFunc(literal, func(r rune) bool { return r < 32 || r > 126 }) {
			t.Errorf("the literal of %q contains other bytes", s)
		}
		if other, ok := literals[literal]; ok && other != s {
			t.Errorf("%q and %q have the same literal", s, other)
		}
		if other, ok := labels[label]; ok && other != s {
			t.Errorf("%q and %q have the same label", s, other)
		}
		literals[literal], labels[label] = s, s
		for i := range min(len(literal), 600) {
			if got, f := quote.Unquote(literal[:i]); got != "" || f.Errno != api.ErrSyntax {
				t.Errorf("a prefix of the literal of %q is one: %q, %v", s, got, f)
			}
		}
		for _, u := range texts()[:20] {
			if other := quote.Quote(u); quote.Quote(s+u) != literal[:len(literal)-1]+other[1:] {
				t.Errorf("the literal of the concatenation of %q and %q", s, u)
			}
		}
	}
}
