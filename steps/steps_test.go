package steps_test

import (
	"cmp"
	"math"
	"slices"
	"strconv"
	"strings"
	"testing"

	"configlang/api"
	"configlang/quote"
	"configlang/steps"
)

// label returns a step with a label.
func label(s string) api.Step { return api.Step{Label: s} }

// at returns a step with an index.
func at(i int) api.Step { return api.Step{Index: i} }

// texts returns valid paths with their texts.
func texts() map[string][]api.Step {
	return map[string][]api.Step{
		".": {}, "a": {label("a")}, "a[0].\"b c\"": {label("a"), at(0), label("b c")}, "[0]": {at(0)}, "[1000000]": {at(1000000)}, "[0][12][3]": {at(0), at(12), at(3)}, "[0].a": {at(0), label("a")}, "a.b.c": {label("a"), label("b"), label("c")},
		"#d._h.x1": {label("#d"), label("_h"), label("x1")}, "\"int\".\"_\".\"#\".\"1\"": {label("int"), label("_"), label("#"), label("1")}, "\".\"": {label(".")}, "\"[0]\"[0]": {label("[0]"), at(0)}, "ints[999999]": {label("ints"), at(999999)},
		"\"\\\"\\\\\\n\\t\\r\\x00\\x1f\\x7f\\x80\\xff ~\"": {label("\"\\\n\t\r\x00\x1f\x7f\x80\xff ~")}, strings.Repeat("a", 32): {label(strings.Repeat("a", 32))}, "\"" + strings.Repeat("a", 33) + "\".b": {label(strings.Repeat("a", 33)), label("b")},
	}
}

// invalid returns lists that are no paths.
func invalid() [][]api.Step {
	return [][]api.Step{{at(-1)}, {at(1000001)}, {at(math.MinInt)}, {at(math.MaxInt)}, {{Label: "a", Index: 1}}, {{Label: "a", Index: -1}}, {label("a"), at(0), at(-1)}, {{Label: "a", Index: 1}, label("b")}}
}

// TestText checks the texts of paths (P10.1).
func TestText(t *testing.T) {
	for s, l := range texts() {
		if got := steps.Text(l); got != s || !steps.Valid(l) {
			t.Errorf("Text(%v): %s, want %s", l, got, s)
		}
		if got, f := steps.Parse(s); f != (api.Fault{}) || !slices.Equal(got, l) {
			t.Errorf("Parse(%s): %v, %v, want %v", s, got, f, l)
		}
	}
	for _, l := range invalid() {
		if got := steps.Text(l); got != "?" || steps.Valid(l) {
			t.Errorf("Text(%v): %s", l, got)
		}
	}
	if steps.Text(nil) != "." || !steps.Valid(nil) {
		t.Error("the empty path")
	}
}

// fails checks that Parse returns a fault, and nothing else.
func fails(t *testing.T, s string, want api.Fault) {
	t.Helper()
	if l, f := steps.Parse(s); f != want || len(l) != 0 {
		t.Errorf("Parse(%q): %v, %v, want %v", s, l, f, want)
	}
}

// TestParseFaults checks the offsets of faults (P10.2).
func TestParseFaults(t *testing.T) {
	for s, at := range map[string]int{
		"": 0, "?": 0, "a.": 2, ".a": 1, "..": 1, ".[0]": 1, ".\n": 1, "a..b": 2, "a.[0]": 2, "a b": 1, "a ": 1, " a": 0, "a-b": 1, "1": 0, "a.1": 2, "-": 0, "a\n": 1, "\u00e9": 0, "a\x00": 1, "\x00": 0,
		"#": 1, "_": 1, "#1": 1, "__": 1, "_#": 1, "#.a": 1, "##a": 1, "a#": 1, "a._": 3, "a.#[": 3,
		"int": 3, "int.a": 3, "int[0]": 3, "a.null": 6, "a.null.b": 6, "in": 2, "package ": 7, "int-": 3, "in\"": 2,
		strings.Repeat("a", 33): 32, "b." + strings.Repeat("a", 33): 34, "#" + strings.Repeat("a", 32): 32, strings.Repeat("a", 32) + "-": 32, strings.Repeat("1", 33): 0,
		"\"a\"": 2, "\"\"": 1, "a.\"\"": 3, "\"#a\"": 3, "\"int": 4, "\"a": 2, "\"": 1, "\"a b": 4, "\"a b\"c": 5, "\"a b\"\"": 5, "\"a b\".": 6, "\"a b\"[": 6, "\"a b\" ": 5, "\"" + strings.Repeat("a", 32) + "\"": 33,
		"\"\n\"": 1, "\"a\x7f": 2, "\"\x1f": 1, "\"\x80": 1, "\"\x00": 1, "\"a\u00e9\"": 2,
		"\"\\": 2, "\"\\q": 2, "\"\\x": 3, "\"\\X": 2, "\"\\u": 2, "\"\\x0": 4, "\"\\x1": 4, "\"\\x2": 3, "\"\\x41\"": 3, "\"\\x3": 3, "\"\\x5": 3, "\"\\x6f": 3, "\"\\x7": 4, "\"\\x70": 4, "\"\\x7e": 4, "\"\\x8": 4, "\"\\x09": 4, "\"\\x0a": 4, "\"\\x0d": 4, "\"\\x0A": 4, "\"\\xA0": 3, "\"\\xaA": 4, "\"\\xFf": 3, "\"\\xg": 3, "\"\\x0g": 4, "\"\\x\"": 3, "\"\\x0\"": 4, "\"\\x/": 3, "\"\\x:": 3, "\"\\x`": 3, "\"\\0": 2, "\"\\(": 2, "\"\\'": 2, "\"\\ ": 2, "\"\\\n": 2, "\"\\x\x00": 3, "\"a\\q\n": 3,
		"[": 1, "[]": 1, "[a]": 1, "[-1]": 1, "[+1]": 1, "[ 1]": 1, "[1": 2, "[1 ]": 2, "[1]a": 3, "[1].": 4, "[1] ": 3, "[1]]": 3, "[1]\"a b\"": 3, "[01]": 2, "[00": 2, "[0": 2, "[1.5]": 2, "[1000001]": 7, "[1000002": 7, "[9999999]": 7, "[10000000]": 8, "[2000000]": 7, "[99999999999999999999999]": 7, "[1000000": 8, "[1000000a": 8, "a[": 2, "a[0": 3, "a[0]b": 4, "[\"a\"]": 1,
	} {
		fails(t, s, api.Fault{Errno: api.ErrSyntax, At: at})
	}
}

// TestParseLimits checks the limit of a text, and that it comes first (P10.2).
func TestParseLimits(t *testing.T) {
	long := "\"" + strings.Repeat(" ", api.MaxText-2) + "\""
	if l, f := steps.Parse(long); f != (api.Fault{}) || len(l) != 1 || l[0].Label != long[1:len(long)-1] {
		t.Errorf("a text of MaxText bytes: %d, %v", len(l), f)
	}
	many := strings.Repeat("[0]", api.MaxText/3) + "."
	fails(t, many, api.Fault{Errno: api.ErrSyntax, At: len(many)})
	if l, f := steps.Parse(many[:len(many)-1]); f != (api.Fault{}) || len(l) != api.MaxText/3 {
		t.Errorf("many steps: %d, %v", len(l), f)
	}
	fails(t, long+".", api.Fault{Errno: api.ErrSize})
	fails(t, " "+long, api.Fault{Errno: api.ErrSize})
	fails(t, strings.Repeat("-", api.MaxText), api.Fault{Errno: api.ErrSyntax, At: 0})
	fails(t, strings.Repeat(".", api.MaxText+1), api.Fault{Errno: api.ErrSize})
	// The text of a path may be longer than what Parse reads: then a text is only too short.
	fails(t, "\""+strings.Repeat(" ", api.MaxText-1), api.Fault{Errno: api.ErrSyntax, At: api.MaxText})
}

// isStep reports whether s is the text of one step, behind its dot.
func isStep(s string) bool {
	if l, f := quote.Unlabel(s); f == (api.Fault{}) {
		return l != "" && quote.Label(l) == s
	}
	n, err := strconv.Atoi(strings.Trim(s, "[]"))
	return err == nil && n >= 0 && n <= 1000000 && s == "["+strconv.Itoa(n)+"]"
}

// isPath reports whether s is the text of a path behind other steps: the definition, where all ways to divide the text are tried.
func isPath(s string) bool {
	if s == "" {
		return true
	}
	for i := 1; i <= len(s); i++ {
		step, dot := strings.CutPrefix(s[:i], ".")
		if isStep(step) && dot != strings.HasPrefix(step, "[") && isPath(s[i:]) {
			return true
		}
	}
	return false
}

// isText reports whether s is the text of a path.
func isText(s string) bool {
	return s == "." || s != "" && isPath(s) && s[0] != '.' || s != "" && isPath("."+s)
}

// TestShortTexts compares Parse with the definition for all texts of at most 4 bytes of which only the last one may be a fault (P10.2, P10.4).
func TestShortTexts(t *testing.T) {
	for _, alphabet := range []string{"a.[]01", "a.\"\\n", "\"\\x0a1", "\"in._#", "\"x[8]", "9\"\\x7f", "-\"\\x8a"} {
		begins, whole := map[string]bool{}, map[string]bool{}
		var grow, check func(s string)
		grow = func(s string) {
			if isText(s) {
				whole[s] = true
				for i := range len(s) + 1 {
					begins[s[:i]] = true
				}
			}
			for i := range len(alphabet) {
				if len(s) < 7 {
					grow(s + alphabet[i:i+1])
				}
			}
		}
		grow("")
		check = func(s string) {
			_, f := steps.Parse(s)
			want := api.Fault{}
			switch {
			case !begins[s]:
				want = api.Fault{Errno: api.ErrSyntax, At: len(s) - 1}
			case !whole[s]:
				want = api.Fault{Errno: api.ErrSyntax, At: len(s)}
			}
			if f != want {
				t.Fatalf("Parse(%q): %v, want %v", s, f, want)
			}
			for i := range len(alphabet) {
				if begins[s] && len(s) < 4 {
					check(s + alphabet[i:i+1])
				}
			}
		}
		check("")
	}
}

// TestLabels checks that each label of one or two bytes is written and read (P10.4).
func TestLabels(t *testing.T) {
	seen := map[string]bool{}
	for i := range 256 {
		for _, s := range []string{string([]byte{byte(i)}), "a" + string([]byte{byte(i)}), "\\" + string([]byte{byte(i)})} {
			l := []api.Step{at(1), label(s), label("b")}
			text := steps.Text(l)
			if text != "[1]."+quote.Label(s)+".b" || seen[text] {
				t.Errorf("Text(%v): %s", l, text)
			}
			seen[text] = true
			if got, f := steps.Parse(text); f != (api.Fault{}) || !slices.Equal(got, l) {
				t.Errorf("Parse(%s): %v, %v", text, got, f)
			}
		}
	}
}

// paths returns lists of steps, valid and not, in ascending order.
func paths() [][]api.Step {
	return [][]api.Step{{}, {{Label: "A"}}, {{Label: "a", Index: -1}}, {label("a")}, {label("a"), label("b")}, {label("a"), at(0)}, {label("a"), at(2)}, {label("a"), at(10)}, {{Label: "a", Index: 2}}, {{Label: "a", Index: 10}}, {label("aa")}, {label("b")}, {label("b"), label("a")}, {label("\xff")}, {at(math.MinInt)}, {at(-1)}, {at(0)}, {at(0), label("z")}, {at(0), at(-5)}, {at(0), at(0)}, {at(2)}, {at(10)}, {at(math.MaxInt)}}
}

// TestCompare checks the order of any lists (P10.3, P10.4).
func TestCompare(t *testing.T) {
	for i, a := range paths() {
		for j, b := range paths() {
			if got := steps.Compare(a, b); got != cmp.Compare(i, j) {
				t.Errorf("Compare(%v, %v): %d", a, b, got)
			}
		}
	}
}

// TestPrefix checks prefixes of any lists (P10.3).
func TestPrefix(t *testing.T) {
	long := []api.Step{label("a"), at(3), {Label: "b", Index: 7}, at(-2)}
	for i := range len(long) + 1 {
		if !steps.Prefix(long[:i], long) || i < len(long) && steps.Prefix(long, long[:i]) {
			t.Errorf("the first %d steps", i)
		}
		for j := range i {
			for _, s := range []api.Step{label("c"), {Label: long[j].Label, Index: long[j].Index + 1}, {Label: long[j].Label + "x", Index: long[j].Index}} {
				other := slices.Clone(long[:i])
				other[j] = s
				if steps.Prefix(other, long) {
					t.Errorf("Prefix(%v, %v)", other, long)
				}
			}
		}
	}
	if !steps.Prefix(nil, nil) || !steps.Prefix(nil, long) || steps.Prefix(long, nil) {
		t.Error("the empty path as a prefix")
	}
}
