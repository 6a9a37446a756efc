package token_test

import (
	"slices"
	"strings"
	"testing"

	"configlang/api"
	"configlang/token"
)

// Kinds of tokens, in short.
const (
	end     = api.TokEnd
	ident   = api.TokIdent
	number  = api.TokNumber
	str     = api.TokString
	interp  = api.TokInterp
	op      = api.TokOp
	comment = api.TokComment
	line    = api.TokLine
)

// tok returns a token.
func tok(kind int, text string, pos, end int) api.Token {
	return api.Token{Kind: kind, Text: text, Pos: pos, End: end}
}

// scan returns the tokens of a text without a fault.
func scan(t *testing.T, s string) []api.Token {
	t.Helper()
	l, f := token.Scan(s)
	if f != (api.Fault{}) {
		t.Fatalf("Scan(%q): %v", s, f)
	}
	return l
}

// short returns the tokens of a text, without the last one, as "kind:text" separated by blanks.
func short(t *testing.T, s string) string {
	t.Helper()
	l := scan(t, s)
	names := []string{"end", "ident", "number", "str", "interp", "op", "comment", "line"}
	var words []string
	for _, x := range l[:len(l)-1] {
		words = append(words, names[x.Kind]+":"+x.Text)
	}
	return strings.Join(words, " ")
}

// TestScan checks kinds, texts and offsets (P24.1).
func TestScan(t *testing.T) {
	for s, want := range map[string][]api.Token{
		"":                   {tok(end, "", 0, 0)},
		" \t\r\n ":           {tok(end, "", 5, 5)},
		"a: 1 // x":          {tok(ident, "a", 0, 1), tok(op, ":", 1, 2), tok(number, "1", 3, 4), tok(comment, " x", 5, 9), tok(end, "", 9, 9)},
		"a //b\n":            {tok(ident, "a", 0, 1), tok(comment, "b", 2, 5), tok(line, "\n", 5, 6), tok(end, "", 6, 6)},
		"a,\n":               {tok(ident, "a", 0, 1), tok(op, ",", 1, 2), tok(end, "", 3, 3)},
		"\"a\\n\\\"\" \"\"":  {tok(str, "a\n\"", 0, 7), tok(str, "", 8, 10), tok(end, "", 10, 10)},
		"\"a\\(b)\\n\"x":     {tok(interp, "a\\(b)\\n", 0, 9), tok(ident, "x", 9, 10), tok(end, "", 10, 10)},
		"_|_ 12.5\n...":      {tok(op, "_|_", 0, 3), tok(number, "12.5", 4, 8), tok(line, "\n", 8, 9), tok(op, "...", 9, 12), tok(end, "", 12, 12)},
		"\n\n#d\r\n// c\r\n": {tok(ident, "#d", 2, 4), tok(line, "\n", 5, 6), tok(comment, " c\r", 6, 11), tok(end, "", 12, 12)},
	} {
		if got := scan(t, s); !slices.Equal(got, want) {
			t.Errorf("Scan(%q): %v, want %v", s, got, want)
		}
	}
}

// TestLongest checks that the longest possible token is taken (P24.1).
func TestLongest(t *testing.T) {
	for s, want := range map[string]string{
		"_": "op:_", "_|_": "op:_|_", "_a": "ident:_a", "__": "ident:__", "_1": "ident:_1", "#1": "ident:#1", "#_": "ident:#_", "#a#b": "ident:#a ident:#b", "a#b": "ident:a ident:#b", "a_|_": "ident:a_ op:| op:_", "_|_a": "op:_|_ ident:a", "_|_|_": "op:_|_ op:| op:_", "_|a": "op:_ op:| ident:a", "_ |_": "op:_ op:| op:_", "_||_": "op:_ op:|| op:_", "__|_": "ident:__ op:| op:_", "_|__": "op:_|_ op:_", "_|_1": "op:_|_ number:1", "_.a": "op:_ op:. ident:a", "_9|_": "ident:_9 op:| op:_",
		"abc_9Z": "ident:abc_9Z", "null": "ident:null", strings.Repeat("a", 100): "ident:" + strings.Repeat("a", 100),
		"...": "op:...", "..": "op:. op:.", "....": "op:... op:.", "...a": "op:... ident:a", ". ..": "op:. op:. op:.",
		"1": "number:1", "0": "number:0", "1.5": "number:1.5", "1.": "number:1 op:.", "1.a": "number:1 op:. ident:a", "1...": "number:1 op:...", "1.5.2": "number:1.5 op:. number:2", "1.2.": "number:1.2 op:.", "0.0001": "number:0.0001", "100000000000": "number:100000000000", "1a": "number:1 ident:a", "-1": "op:- number:1", "a1": "ident:a1", ".5": "op:. number:5", "1 .5": "number:1 op:. number:5", "1e3": "number:1 ident:e3", "1_0": "number:1 ident:_0", "_ 1": "op:_ number:1",
		"===": "op:== op:=", "=~=": "op:=~ op:=", "!~": "op:!~", "!=~": "op:!= ", "<=>=": "op:<= op:>=", "<>": "op:< op:>", "&&&": "op:&& op:&", "|||": "op:|| op:|", "!!": "op:! op:!", "=!~": "op:= op:!~", ">==": "op:>= op:=", "==~": "op:== ",
		"a/b": "ident:a op:/ ident:b", "/": "op:/", "/ /": "op:/ op:/", "///": "comment:/", "a//b//c": "ident:a comment:b//c", "//": "comment:", "//\"": "comment:\"", "/*": "op:/ op:*", "%//%": "op:% comment:%", "//\x00\xff\u00e9": "comment:\x00\xff\u00e9",
		"\"\"\"\"": "str: str:", "\"//\"": "str://", "\"\\\\\"a": "str:\\ ident:a", "\"\\\\\\\"\"a": "str:\\\" ident:a", "\"\\\\(\"": "str:\\(", "\"\\\\\\(a)\"": "interp:\\\\\\(a)", "\"\\\\\\\\(\"": "str:\\\\(", "\"(\\\\)\"": "str:(\\)", "\"\\x28\\x41\"": "str:(A", "\"\\(a)\"\"b\"": "interp:\\(a) str:b", "\"\\()\"": "interp:\\()", "\"\\(\\\")\\\")\"": "interp:\\(\\\")\\\")", "\"\\(a\n\x00\xff)\"": "interp:\\(a\n\x00\xff)", "\"\\((\\(b)))\"": "interp:\\((\\(b)))", "\"//\\(a)\"": "interp://\\(a)",
		"\ta\t//\t\r": "ident:a comment:\t\r",
	} {
		if strings.HasSuffix(want, " ") {
			if l, f := token.Scan(s); len(l) != 0 || f != (api.Fault{Errno: api.ErrSyntax, At: 2}) {
				t.Errorf("Scan(%q): %v, %v", s, l, f)
			}
			continue
		}
		if got := short(t, s); got != want {
			t.Errorf("Scan(%q): %s, want %s", s, got, want)
		}
	}
}

// operators returns all operators.
func operators() []string {
	return strings.Fields("_|_ _ ... == != <= >= =~ !~ && || ( ) [ ] { } : , . ? ! * & | = < > + - / %")
}

// TestOperators checks each operator, each two of them, and each single byte (P24.1).
func TestOperators(t *testing.T) {
	l := operators()
	isOp := map[string]bool{}
	for _, s := range l {
		isOp[s] = true
		if got := scan(t, s); !slices.Equal(got, []api.Token{tok(op, s, 0, len(s)), tok(end, "", len(s), len(s))}) {
			t.Errorf("Scan(%q): %v", s, got)
		}
	}
	if len(isOp) != 32 {
		t.Errorf("%d operators", len(isOp))
	}
	for _, a := range l {
		for _, b := range l {
			s := a + " " + b
			if got := short(t, s); got != "op:"+a+" op:"+b {
				t.Errorf("Scan(%q): %s", s, got)
			}
			// Without a blank, the longest operator comes first, unless there is none for the rest.
			s = a + b
			first := 0
			for n := range min(len(s), 3) + 1 {
				if isOp[s[:n]] {
					first = n
				}
			}
			got, f := token.Scan(s)
			switch {
			case strings.HasPrefix(s, "//"), strings.HasPrefix(s, "__"):
			case f == (api.Fault{}) && (got[0].Text != s[:first] || got[0].Kind != op):
				t.Errorf("Scan(%q): %v", s, got)
			case f != (api.Fault{}) && !strings.Contains(s[first:], "~"):
				t.Errorf("Scan(%q): %v", s, f)
			}
		}
	}
	for b := range 256 {
		s := string([]byte{byte(b)})
		got, f := token.Scan(s)
		letter := 'a' <= b && b <= 'z' || 'A' <= b && b <= 'Z'
		switch {
		case letter || '0' <= b && b <= '9' || isOp[s]:
			if f != (api.Fault{}) || len(got) != 2 || got[0].Text != s {
				t.Errorf("Scan(%q): %v, %v", s, got, f)
			}
		case strings.Contains(" \t\r\n", s):
			if f != (api.Fault{}) || len(got) != 1 {
				t.Errorf("Scan(%q): %v, %v", s, got, f)
			}
		case f != (api.Fault{Errno: api.ErrSyntax}) || len(got) != 0:
			t.Errorf("Scan(%q): %v, %v", s, got, f)
		}
	}
}

// TestScanFaults checks the offsets of faults, of which the first one is returned (P24.1).
func TestScanFaults(t *testing.T) {
	for s, at := range map[string]int{
		"#": 0, "a #": 2, "##": 0, "# a": 0, "#-": 0, "a##b": 1, "a ~": 2, "~": 0, "$": 0, "a;b": 1, "@": 0, "^": 0, "'a'": 0, "`": 0, "\\": 0, "a\x00": 1, "\x0b": 0, "\x0c": 0, "\x7f": 0, "\u00e9": 0, "a\xc2\xa0b": 1, "\xef\xbb\xbfa": 0,
		"1.50": 0, "a: 1.50": 3, "007": 0, "00": 0, "0.0": 0, "1.00001": 0, "x 100000000001": 2, "99999999999999999999": 0, "01.5": 0, "1.0": 0, "1.50.1": 0, "5 1.50 ~": 2,
		"\"": 0, "a \"b": 2, "\"a\\\"": 0, "\"\\\\\\\"": 0, "\"a\nb\"": 0, "\"\t\"": 0, "x\"\x7f\"": 1, "\"\u00e9\"": 0, "\"\\q\"": 0, "\"\\x4\"": 0, "\"\\x4g\"": 0, "\"\\": 0, "\"a\" \"": 4, "\"a\"\"": 3, "\"\\u0041\"": 0,
		"\"\\(\"": 0, "\"\\(a\"": 0, "a: \"\\((a)\"": 3, "\"\\(a)\\q\"": 0, "\"\\q\\(a)\"": 0, "\"\n\\(a)\"": 0, "\"\\(a)\xff\"": 0, "\"\\(a": 0, "\"\\(a)": 0, "\"\\(\"a\")\"": 0, "\"\\(a)\\\"": 0,
		"~ \"": 0, "1.50 ~": 0, "a \"\\q\" ~": 2, "// \"\n~": 5,
	} {
		if l, f := token.Scan(s); len(l) != 0 || f != (api.Fault{Errno: api.ErrSyntax, At: at}) {
			t.Errorf("Scan(%q): %v, %v, want ErrSyntax at %d", s, l, f, at)
		}
	}
}

// TestScanSize checks the limit of a text, and that it comes first (P24.1).
func TestScanSize(t *testing.T) {
	for _, s := range []string{strings.Repeat("a", api.MaxText), strings.Repeat("+", api.MaxText), "\"" + strings.Repeat("a", api.MaxText-2) + "\"", "//" + strings.Repeat("~", api.MaxText-2), strings.Repeat("\n", api.MaxText), "\"\\(" + strings.Repeat("(", api.MaxText/2-3) + strings.Repeat(")", api.MaxText/2-2) + " \""} {
		if l, f := token.Scan(s); f != (api.Fault{}) || l[len(l)-1] != tok(end, "", api.MaxText, api.MaxText) {
			t.Errorf("a text of MaxText bytes: %v", f)
		}
		for _, more := range []string{s + "\n", "~" + s} {
			if l, f := token.Scan(more); len(l) != 0 || f != (api.Fault{Errno: api.ErrSize}) {
				t.Errorf("a text of more than MaxText bytes: %v", f)
			}
		}
	}
}

// TestLineEnds checks where line feeds give tokens (P24.1).
func TestLineEnds(t *testing.T) {
	ends := map[string]bool{"_|_": true, "_": true, "...": true, ")": true, "]": true, "}": true, "?": true}
	for _, s := range append(operators(), "a", "#d", "_x", "null", "1", "1.5", "\"\"", "\"a\"", "\"\\(a)\"") {
		want := ends[s] || !slices.Contains(operators(), s)
		for text, at := range map[string]int{"\n": 0, " \t\r\n": 3, "//c\n": 3, " // c // d\n": 10, "\n\n": 0, "\n \n//e\n\n": 0} {
			n := 0
			for _, x := range scan(t, "+ "+s+text) {
				if x.Kind == line {
					n++
					if pos := 2 + len(s) + at; x != tok(line, "\n", pos, pos+1) {
						t.Errorf("Scan(%q): %v", s+text, x)
					}
				}
			}
			if n > 1 || (n == 1) != want && s != "/" {
				t.Errorf("Scan(%q) has %d line ends", s+text, n)
			}
		}
	}
	for s, want := range map[string]string{
		"\n\na": "ident:a", "//c\n//d\n": "comment:c comment:d", "//c\na\n": "comment:c ident:a line:\n", "a\n//c\n": "ident:a line:\n comment:c", "a\n//c\nb\n\n": "ident:a line:\n comment:c ident:b line:\n", "a\n,\nb": "ident:a line:\n op:, ident:b", "a,\nb\n": "ident:a op:, ident:b line:\n", "a b\nc": "ident:a ident:b line:\n ident:c", "{\n}\n": "op:{ op:} line:\n", "a://c\n": "ident:a op:: comment:c", "\"\\(a\n)\"\n": "interp:\\(a\n) line:\n", "a //b": "ident:a comment:b", "a": "ident:a", "( //c\n)//d\n": "op:( comment:c op:) comment:d line:\n",
	} {
		if got := short(t, s); got != want {
			t.Errorf("Scan(%q): %q, want %q", s, got, want)
		}
	}
}

// TestJoined checks the bytes between tokens, and the tokens of two texts that are joined (P24.4).
func TestJoined(t *testing.T) {
	texts := []string{"", "a", "a: 1 // x", "x\n", "\n\n", "{a: \"b\\(c)\"\n}", "// c", "a,", "\"\\\\\" +", "_ |_ _|_", "1.5.2", "a\r\n\tb ...", "_|", "=", "1."}
	for _, s := range texts {
		at := 0
		for _, x := range scan(t, s) {
			if x.Pos < at || x.End < x.Pos || x.End > len(s) || strings.Trim(s[at:x.Pos], " \t\r\n") != "" {
				t.Errorf("Scan(%q): %v behind %d", s, x, at)
			}
			if x.Kind == ident || x.Kind == number || x.Kind == op || x.Kind == line {
				if x.Text != s[x.Pos:x.End] {
					t.Errorf("Scan(%q): %v", s, x)
				}
			}
			at = x.End
		}
		if at != len(s) {
			t.Errorf("the tokens of %q end at %d", s, at)
		}
		for _, u := range texts {
			var want, got []api.Token
			for _, x := range scan(t, s) {
				if x.Kind != line && x.Kind != end {
					want = append(want, x)
				}
			}
			for _, x := range scan(t, u) {
				if x.Kind != line {
					want = append(want, tok(x.Kind, x.Text, x.Pos+len(s)+1, x.End+len(s)+1))
				}
			}
			for _, x := range scan(t, s+"\n"+u) {
				if x.Kind != line {
					got = append(got, x)
				}
			}
			if !slices.Equal(got, want) {
				t.Errorf("%q and %q: %v, want %v", s, u, got, want)
			}
		}
	}
}

// code and text return parts.
func code(s string, pos int) token.Part { return token.Part{Text: s, Code: true, Pos: pos} }
func text(s string, pos int) token.Part { return token.Part{Text: s, Pos: pos} }

// TestInterp checks the parts of interpolated strings (P24.2).
func TestInterp(t *testing.T) {
	for s, want := range map[string][]token.Part{
		"": nil, "abc": {text("abc", 0)}, "a\\(b + (c))d": {text("a", 0), code("b + (c)", 3), text("d", 11)}, "\\(a)": {code("a", 2)}, "\\()": {code("", 2)}, "\\(a)\\(b)": {code("a", 2), code("b", 6)}, "\\(a) \\(b)": {code("a", 2), text(" ", 4), code("b", 7)},
		"(a)": {text("(a)", 0)}, "a)\\(b)(": {text("a)", 0), code("b", 4), text("(", 6)}, "\\\\(a)": {text("\\(a)", 0)}, "\\\\\\(a)": {text("\\", 0), code("a", 4)}, "\\n\\\"\\t\\r\\\\\\x41\\xfF": {text("\n\"\t\r\\A\xff", 0)}, "\\x28\\(a)\\x29": {text("(", 0), code("a", 6), text(")", 8)},
		"\\(\"a)\")": nil, "\\(\")\")x": nil, "\\(\n\x00\"\\q~\xff)x": {code("\n\x00\"\\q~\xff", 2), text("x", 10)}, "\\(\\(a))": {code("\\(a)", 2)}, "\\(()())": {code("()()", 2)}, "\\(a\\)b": {code("a\\", 2), text("b", 5)}, "\\((((a))))": {code("(((a)))", 2)}, "\\(a)\\\\": {code("a", 2), text("\\", 4)},
	} {
		got, f := token.Interp(s)
		if strings.Contains(s, "\")") {
			// The parenthesis in the inner string counts, and the double quote behind it is not permitted in text.
			if at := strings.Index(s, ")") + 1; len(got) != 0 || f != (api.Fault{Errno: api.ErrSyntax, At: at}) {
				t.Errorf("Interp(%q): %v, %v", s, got, f)
			}
			continue
		}
		if f != (api.Fault{}) || !slices.Equal(got, want) {
			t.Errorf("Interp(%q): %v, %v, want %v", s, got, f, want)
		}
	}
	long := strings.Repeat("a", api.MaxText) + "\\x42" + strings.Repeat("c", api.MaxText)
	if got, f := token.Interp(long + "\\(d)"); f != (api.Fault{}) || !slices.Equal(got, []token.Part{text(strings.Replace(long, "\\x42", "B", 1), 0), code("d", 2*api.MaxText+6)}) {
		t.Errorf("a long text: %d parts, %v", len(got), f)
	}
}

// TestInterpFaults checks the offsets of faults, of which the first one is returned (P24.2).
func TestInterpFaults(t *testing.T) {
	for s, at := range map[string]int{
		"\\(": 0, "a\\(": 1, "\\(a": 0, "\\((a)": 0, "\\(a)\\(b": 4, "a\\(b)c\\((d)": 6, "\\(\\(a)": 0, "\\(\"": 0,
		"\\q": 0, "ab\\q": 2, "\\": 0, "a\\": 1, "\\x": 0, "\\x4": 0, "a\\x4g": 1, "\\xg4": 0, "\\X41": 0, "\\'": 0, "\\ ": 0, "\\)": 0, "\\\n": 0, "\\x4\"": 0, "\\x\"\"": 0, "\\u0041": 0, "\\(a)\\q": 4, "\\\\\\": 2, "\\\\\\q": 2, "\\x\\(a)": 0,
		"\"": 0, "a\"b": 1, "\n": 0, "a\tb": 1, "\x1f": 0, "\x7f": 0, "\x80": 0, "\u00e9": 0, "\x00": 0, "\\(a)\"": 4, "\\(a)b\n": 5,
		"\n\\q\\(": 0, "\\q\n": 0, "\"\\(": 0, "\\(\n\\q": 0,
	} {
		if l, f := token.Interp(s); len(l) != 0 || f != (api.Fault{Errno: api.ErrSyntax, At: at}) {
			t.Errorf("Interp(%q): %v, %v, want ErrSyntax at %d", s, l, f, at)
		}
	}
}

// TestPosition checks lines and columns (P24.3).
func TestPosition(t *testing.T) {
	for _, s := range []string{"", "a", "\n", "ab\ncd\n\ne", "\r\n\u00e9x\n\xff\xfe\n", "\n\n\n", "\u20ac\u20ac\n\xe2\n\x82"} {
		lineNo, column := 1, 1
		for at := range len(s) + 1 {
			if l, c := token.Position(s, at); l != lineNo || c != column {
				t.Errorf("Position(%q, %d): %d, %d, want %d, %d", s, at, l, c, lineNo, column)
			}
			if at < len(s) && s[at] == '\n' {
				lineNo, column = lineNo+1, 0
			}
			column++
		}
		for _, at := range []int{-1, -1 << 62, len(s) + 1, 1 << 62} {
			want := 0
			if at > 0 {
				want = len(s)
			}
			l, c := token.Position(s, at)
			if wl, wc := token.Position(s, want); l != wl || c != wc {
				t.Errorf("Position(%q, %d): %d, %d", s, at, l, c)
			}
		}
	}
}
