package parser_test

import (
	"strings"
	"testing"

	"configlang/api"
	"configlang/parser"
)

// random returns numbers that are the same in each run.
type random uint64

func (x *random) below(n int) int {
	*x = *x*6364136223846793005 + 1442695040888963407
	return int(uint64(*x)>>33) % n
}

// pick returns one of some elements.
func pick[T any](x *random, l ...T) T {
	return l[x.below(len(l))]
}

// pieces are the tokens of random texts.
func pieces() []string {
	return strings.Split("\n|\n|// c\n|package|import|let|if|for|in|null|true|int|string|a|b|#d|_h|1|0.5|\"s\"|\"(\"|\"a/b\"|\"x\\(a)\"|\"x\\(a\n)y\\({b: 1})\"|\"\\(1 2)\"|\"\\({let a = 1})\"|_|...|==|<=|=~|!~|&&|(|)|[|]|{|}|(|)|[|]|{|}|:|,|.|?|!|*|&|=|<|+|-|/|a|a|:|:|,|\n", "|")
}

// pieceOf returns the text of a terminal.
func pieceOf(x *random, class string) string {
	switch class {
	case "END":
		return ""
	case "LINE":
		return "\n"
	case "NAME":
		return pick(x, "a", "b", "#d", "_h1")
	case "SECOND":
		return pick(x, "c", "v")
	case "STR":
		return pick(x, `"s"`, `"("`, `"a b"`)
	case "PATH":
		return `"x/y"`
	case "INTERP":
		return pick(x, `"x\(a)"`, "\"\\(a\n+1)z\\({b: 1})\"")
	case "NUM":
		return pick(x, "1", "0.5")
	case "OWN":
		return "\n// own\n"
	case "TRAIL":
		return "// trail\n"
	}
	return class
}

// compare compares the parser with the definition for a text.
func compare(t *testing.T, s string) bool {
	t.Helper()
	_, got := parser.File(s)
	want := faultOf(s, "File")
	if got != want && (want != api.Fault{} || got != api.Fault{Errno: api.ErrDepth}) {
		t.Fatalf("File(%q): %v, want %v", s, got, want)
	}
	return want == api.Fault{}
}

// walk returns a random text: mostly one of which each part may follow the ones before it.
func walk(x *random, n int) string {
	all := pieces()
	s := ""
	r := newRecognizer("File")
	for range n {
		piece := pick(x, all...)
		if l := r.expected(); x.below(12) > 0 && len(l) > 0 {
			class := pick(x, l...)
			for range 4 { // operators are many, but much alike
				if strings.Contains("|| && == != < <= > >= - / % !~ =~ true false null bool number", class) {
					class = pick(x, l...)
				}
			}
			piece = pieceOf(x, class)
		}
		s += pick(x, " ", " ", "\t") + piece
		var ok bool
		if r, ok = follow(s); !ok {
			break
		}
	}
	return s
}

// follow returns the recognizer behind a text that is not ended.
func follow(s string) (*recognizer, bool) {
	tokens, ok := scan(s)
	if !ok {
		return nil, false
	}
	r := newRecognizer("File")
	l := significant(tokens, false)
	for i := range l[:len(l)-1] {
		if !r.read(classesOf(s, l, i)) {
			return nil, false
		}
	}
	return r, true
}

// TestWalks compares the faults of random texts with the definition (P26.1).
func TestWalks(t *testing.T) {
	x := random(26)
	good := 0
	for range 600 {
		if compare(t, walk(&x, 1+x.below(16))) {
			good++
		}
	}
	if good < 60 {
		t.Errorf("%d texts without a fault", good)
	}
}

// change returns a text in which a token is left out, replaced, written twice or put elsewhere.
func change(x *random, s string) string {
	l, ok := scan(s)
	if !ok || len(l) < 2 {
		return s
	}
	t, u := l[x.below(len(l)-1)], l[x.below(len(l)-1)]
	piece := s[u.Pos:u.End]
	if x.below(2) == 0 {
		piece = pick(x, pieces()...)
	}
	if strings.HasPrefix(piece, "//") && !strings.HasSuffix(piece, "\n") {
		piece += "\n"
	}
	switch x.below(3) {
	case 0:
		return s[:t.Pos] + s[t.End:]
	case 1:
		return s[:t.Pos] + " " + piece + " " + s[t.End:]
	}
	return s[:t.Pos] + " " + piece + " " + s[t.Pos:]
}

// TestChanged compares the faults of texts in which tokens are changed with the definition (P26.1).
func TestChanged(t *testing.T) {
	x := random(262)
	good := 0
	for range 600 {
		w := &writer{random: &x, levels: 1 + x.below(6)}
		w.file()
		s := change(&x, w.text)
		if x.below(3) == 0 {
			s = change(&x, s)
		}
		if len(s) < 400 && compare(t, s) {
			good++
		}
	}
	if good < 100 {
		t.Errorf("%d texts without a fault", good)
	}
}
