package yamltext_test

import (
	"reflect"
	"slices"
	"strings"
	"testing"

	"configlang/api"
	"configlang/data"
	"configlang/yamltext"
)

// random returns numbers that are the same in each run.
type random uint64

func (x *random) below(n int) int {
	*x = *x*6364136223846793005 + 1442695040888963407
	return int(uint64(*x)>>33) % n
}

// Data of each kind.
func null() api.Data              { return api.Data{Kind: api.Null} }
func boolean(n int64) api.Data    { return api.Data{Kind: api.Bool, Num: n} }
func number(u int64) api.Data     { return api.Data{Kind: api.Number, Num: u} }
func text(s string) api.Data      { return api.Data{Kind: api.String, Str: s} }
func list(l ...api.Data) api.Data { return api.Data{Kind: api.List, Items: l} }
func object(l ...api.Member) api.Data {
	return api.Data{Kind: api.Struct, Members: l}
}
func member(label string, d api.Data) api.Member { return api.Member{Label: label, Data: d} }

// nested returns d inside n lists.
func nested(d api.Data, n int) api.Data {
	for range n {
		d = list(d)
	}
	return d
}

// some returns valid data with at most the given number of levels.
func some(x *random, levels int) api.Data {
	words := []string{"", "a", "b_1", "_h", "#d", "no", "Yes", "ON", "oFF", "null", "True", "if", "int", "a b", "a: b", "- a", "-", "# c", " a", "a ", "1", "-1", "1.5", "[]", "{}", "\"", "\\", "\n", "\x00", "\xff", "é", "x:", strings.Repeat("a", 32), strings.Repeat("a", 33), "\":"}
	d := api.Data{Kind: 1 + x.below(4)}
	if levels > 1 {
		d.Kind = 1 + x.below(6)
	}
	switch d.Kind {
	case api.Bool:
		d.Num = int64(x.below(2))
	case api.Number:
		d.Num = []int64{0, 1, -1, 10000, 15000, -120, api.MaxUnits}[x.below(7)]
	case api.String:
		d.Str = words[x.below(len(words))]
	case api.List:
		for range x.below(4) {
			d.Items = append(d.Items, some(x, levels-1))
		}
	case api.Struct:
		seen := map[string]bool{}
		for range x.below(4) {
			if s := words[x.below(len(words))]; !seen[s] {
				seen[s] = true
				d.Members = append(d.Members, member(s, some(x, levels-1)))
			}
		}
	}
	made, _ := data.Make(d)
	return made
}

// TestExamples checks the examples of the chapter.
func TestExamples(t *testing.T) {
	if s, e := yamltext.Text(object(member("a", list(number(10000), text("x"))))); s != "a:\n  - 1\n  - x\n" || e != api.OK {
		t.Errorf("Text: %q, %d", s, e)
	}
	for s, want := range map[string]string{"no": `"no"`, "#d": `"#d"`, "_h": "_h"} {
		if got := yamltext.Scalar(text(s)); got != want {
			t.Errorf("Scalar(%s): %s", s, got)
		}
	}
	for s, want := range map[string]api.Fault{"a: 1\na: 2": {Errno: api.ErrTwice, At: 2}, "a:": {Errno: api.ErrText, At: 2}, "a: 1\n  b: 2": {Errno: api.ErrText, At: 2}, "": {Errno: api.ErrText, At: 1}} {
		if _, f := yamltext.Parse(s); f != want {
			t.Errorf("Parse(%q): %v, want %v", s, f, want)
		}
	}
}

// TestScalar checks the texts of scalars, and of strings in particular (P38.1).
func TestScalar(t *testing.T) {
	for s, want := range map[string]string{
		"": `""`, "a": "a", "A_1": "A_1", "_a": "_a", "_": `"_"`, "#": `"#"`, "#a": `"#a"`, "yes": `"yes"`, "Yes": `"Yes"`, "YES": `"YES"`, "yEs": `"yEs"`, "no": `"no"`, "NO": `"NO"`, "on": `"on"`, "On": `"On"`, "off": `"off"`, "OFF": `"OFF"`, "null": `"null"`, "Null": `"Null"`, "NULL": `"NULL"`, "true": `"true"`, "TRUE": `"TRUE"`, "False": `"False"`, "false": `"false"`,
		"y": "y", "yess": "yess", "_no": "_no", "none": "none", "nil": "nil", "if": `"if"`, "If": "If", "int": `"int"`, "a b": `"a b"`, "a-b": `"a-b"`, "1": `"1"`, "1a": `"1a"`, "\n": `"\n"`, "\xff": `"\xff"`, strings.Repeat("a", 32): strings.Repeat("a", 32), strings.Repeat("a", 33): `"` + strings.Repeat("a", 33) + `"`, "a:": `"a:"`, "é": `"\xc3\xa9"`,
	} {
		if got := yamltext.Scalar(text(s)); got != want {
			t.Errorf("Scalar(%q): %s, want %s", s, got, want)
		}
		if got, e := yamltext.Text(object(member(s, text(s)))); got != want+": "+want+"\n" || e != api.OK {
			t.Errorf("Text of a struct with %q: %s, %d", s, got, e)
		}
	}
	for _, c := range []struct {
		d    api.Data
		want string
	}{
		{null(), "null"}, {boolean(0), "false"}, {boolean(1), "true"}, {number(0), "0"}, {number(-15000), "-1.5"}, {number(api.MaxUnits), "100000000000"}, {list(), "?"}, {object(), "?"}, {list(null()), "?"},
		{api.Data{}, "?"}, {boolean(2), "?"}, {number(api.MaxUnits + 1), "?"}, {api.Data{Kind: 7}, "?"}, {api.Data{Kind: api.Null, Num: 1}, "?"}, {api.Data{Kind: api.String, Items: []api.Data{{}}}, "?"},
	} {
		if s := yamltext.Scalar(c.d); s != c.want {
			t.Errorf("Scalar(%v): %s, want %s", c.d, s, c.want)
		}
		if s, e := yamltext.Text(c.d); c.want != "?" && (s != c.want+"\n" || e != api.OK) {
			t.Errorf("Text(%v): %q, %d", c.d, s, e)
		}
	}
}

// TestText checks the lines of lists and structs, and data that is not valid (P38.1).
func TestText(t *testing.T) {
	for _, c := range []struct {
		d    api.Data
		want string
	}{
		{list(), "[]\n"}, {object(), "{}\n"}, {list(list()), "- []\n"}, {list(object(), null()), "- {}\n- null\n"}, {list(list(null())), "-\n  - null\n"},
		{object(member("", list(object(member("x", object())), list(text(""), number(-10000)))), member("no", object(member("b", boolean(1))))), "\"\":\n  -\n    x: {}\n  -\n    - \"\"\n    - -1\n\"no\":\n  b: true\n"},
		{nested(null(), 3), "-\n  -\n    - null\n"},
	} {
		if s, e := yamltext.Text(c.d); s != c.want || e != api.OK {
			t.Errorf("Text(%v): %q, %d, want %q", c.d, s, e, c.want)
		}
	}
	for want, d := range map[api.Errno]api.Data{api.ErrKind: list(api.Data{}), api.ErrRange: boolean(2), api.ErrTwice: object(member("b", null()), member("a", null())), api.ErrDepth: nested(null(), 16)} {
		if s, e := yamltext.Text(d); s != "" || e != want {
			t.Errorf("Text(%v): %q, %d, want %d", d, s, e, want)
		}
	}
}

// ignore adds ignored lines to a text.
func ignore(x *random, s string) string {
	var b strings.Builder
	for line := range strings.Lines(s) {
		for x.below(3) == 0 {
			b.WriteString([]string{"\n", "   \n", "# a: 1\n", "     #\n", " # \xff\x00\t\n", "#\n"}[x.below(6)])
		}
		b.WriteString(line)
	}
	return b.String() + []string{"", "\n", "  ", "# end"}[x.below(4)]
}

// TestRoundTrip checks that texts are parsed unchanged, with ignored lines, and that texts which are cut off are permitted or end too early (P38.3).
func TestRoundTrip(t *testing.T) {
	x := random(38)
	for range 3000 {
		d := some(&x, 5)
		s, e := yamltext.Text(d)
		if e != api.OK {
			t.Fatalf("Text(%v): %d", d, e)
		}
		for _, form := range []string{s, strings.TrimSuffix(s, "\n"), ignore(&x, s)} {
			if got, f := yamltext.Parse(form); f != (api.Fault{}) || !reflect.DeepEqual(got, d) {
				t.Fatalf("Parse(%q): %v, %v, want %v", form, got, f, d)
			}
		}
		n := strings.Count(s, "\n")
		for i := range n {
			cut := strings.Join(strings.SplitAfter(s, "\n")[:i], "")
			got, f := yamltext.Parse(cut)
			again, _ := yamltext.Text(got)
			if f != (api.Fault{Errno: api.ErrText, At: i + 1}) && (f != (api.Fault{}) || again != cut) {
				t.Fatalf("Parse(%q): %v, %v", cut, got, f)
			}
		}
	}
}

// TestOrder checks that members may be in any order (P38.2).
func TestOrder(t *testing.T) {
	want := object(member("a", object(member("c", number(10000)), member("d", list(null())))), member("b", text("x")))
	for _, s := range []string{"a:\n  c: 1\n  d:\n    - null\nb: x\n", "b: x\na:\n  d:\n    - null\n  c: 1", "a:\n  d:\n    - null\n  c: 1\nb: x"} {
		if d, f := yamltext.Parse(s); f != (api.Fault{}) || !reflect.DeepEqual(d, want) {
			t.Errorf("Parse(%q): %v, %v", s, d, f)
		}
	}
}

// TestFaults checks faults of each kind (P38.2).
func TestFaults(t *testing.T) {
	fault := func(e api.Errno, at int) api.Fault { return api.Fault{Errno: e, At: at} }
	deep := func(n int, last string) string {
		var b strings.Builder
		for i := range n {
			b.WriteString(strings.Repeat("  ", i) + "-\n")
		}
		return b.String() + strings.Repeat("  ", n) + last
	}
	for s, want := range map[string]api.Fault{
		"\n": fault(api.ErrText, 2), "\n\n# x": fault(api.ErrText, 4), "# x\n": fault(api.ErrText, 2), "   ": fault(api.ErrText, 2),
		" 1": fault(api.ErrText, 1), "  - 1": fault(api.ErrText, 1), "1 ": fault(api.ErrText, 1), "\t1": fault(api.ErrText, 1), "1\r": fault(api.ErrText, 1), "1\n2": fault(api.ErrText, 2), "\n1\n\na: 1": fault(api.ErrText, 4), "[]\n- 1": fault(api.ErrText, 2), "a\nb": fault(api.ErrText, 2),
		"01": fault(api.ErrText, 1), "1.50": fault(api.ErrText, 1), "-0": fault(api.ErrText, 1), "1e1": fault(api.ErrText, 1), "+1": fault(api.ErrText, 1), "100000000001": fault(api.ErrText, 1), "yes": fault(api.ErrText, 1), "True": fault(api.ErrText, 1), "~": fault(api.ErrText, 1), "[ ]": fault(api.ErrText, 1), "[1]": fault(api.ErrText, 1), "'a'": fault(api.ErrText, 1), "if": fault(api.ErrText, 1), "a b": fault(api.ErrText, 1),
		`"a"`: fault(api.ErrText, 1), `"a b`: fault(api.ErrText, 1), `"\x41 "`: fault(api.ErrText, 1), `"\xFF"`: fault(api.ErrText, 1), `"a b" `: fault(api.ErrText, 1), "\"\xff\"": fault(api.ErrText, 1), `"\x0a"`: fault(api.ErrText, 1),
		"a:1": fault(api.ErrText, 1), "a:  1": fault(api.ErrText, 1), "a: ": fault(api.ErrText, 1), "a : 1": fault(api.ErrText, 1), "a: 1 # x": fault(api.ErrText, 1), "-1: 1": fault(api.ErrText, 1), "-  1": fault(api.ErrText, 1), "- ": fault(api.ErrText, 1), "-a": fault(api.ErrText, 1), "- - 1": fault(api.ErrText, 1), "- a: 1": fault(api.ErrText, 1), ": 1": fault(api.ErrText, 1), "no: 1": fault(api.ErrText, 1), `"a": 1`: fault(api.ErrText, 1), `"a b":1`: fault(api.ErrText, 1), `"a b" : 1`: fault(api.ErrText, 1), "a: b: 1": fault(api.ErrText, 1), "1: 1": fault(api.ErrText, 1), "a: |": fault(api.ErrText, 1), "---": fault(api.ErrText, 1), "a: \"b\"": fault(api.ErrText, 1),
		"a: 1\n- 1": fault(api.ErrText, 2), "- 1\na: 1": fault(api.ErrText, 2), "a: 1\nb": fault(api.ErrText, 2), "a: 1\n b: 1": fault(api.ErrText, 2), "a:\nb: 1": fault(api.ErrText, 2), "a:\n    b: 1": fault(api.ErrText, 2), "a:\n b: 1": fault(api.ErrText, 2), "a:\n- 1": fault(api.ErrText, 2), "a:\n  1": fault(api.ErrText, 2), "a:\n  []": fault(api.ErrText, 2), "a:\n  - 1\n  b: 1": fault(api.ErrText, 3), "a:\n  - 1\n - 1": fault(api.ErrText, 3), "a:\n  - 1\n    - 1": fault(api.ErrText, 3), "-\n  - 1\na: 1": fault(api.ErrText, 3), "-": fault(api.ErrText, 2), "- 1\n-\n\n": fault(api.ErrText, 4), "a:\n  b:\n    c:\n": fault(api.ErrText, 4), "a:\n#": fault(api.ErrText, 3),
		"a: 1\nb: 1\n\na: x": fault(api.ErrTwice, 4), "a: 1\na:\n": fault(api.ErrTwice, 2), "a: 1\na: ": fault(api.ErrText, 2), "a: 1\n  a: 2": fault(api.ErrText, 2), "a:\n  b: 1\na: 1": fault(api.ErrTwice, 3), "a:\n  b: 1\n  c: 1\n  b: 1\na: 1": fault(api.ErrTwice, 4), "\"\": 1\n\"\": 2": fault(api.ErrTwice, 2), "a: 1\na: 1\nb": fault(api.ErrTwice, 2), "-\n  a: 1\n-\n  a: 1\n  a: 1": fault(api.ErrTwice, 5),
		deep(15, "- 1"): fault(api.ErrDepth, 0), deep(15, "- []"): fault(api.ErrDepth, 0), deep(16, "-"): fault(api.ErrText, 18), deep(16, "x"): fault(api.ErrText, 17), deep(200, "- 1"): fault(api.ErrDepth, 0), deep(200, "a: 1\n"+strings.Repeat("  ", 200)+"a: 2"): fault(api.ErrTwice, 202), deep(20, "- 1") + "\n- 1\na: 1": fault(api.ErrText, 23),
		strings.Repeat("\n", api.MaxText+1): fault(api.ErrSize, 0), strings.Repeat("\n", api.MaxText): fault(api.ErrText, api.MaxText+1), strings.Repeat("#", api.MaxText): fault(api.ErrText, 2),
	} {
		if d, f := yamltext.Parse(s); f != want || !reflect.DeepEqual(d, api.Data{}) {
			t.Errorf("Parse(%.60q): %v, %v, want %v", s, d, f, want)
		}
	}
	for s, want := range map[string]api.Data{
		deep(14, "- []"): nested(list(), 15), deep(14, "- 1"): nested(number(10000), 15), "#d: 1\n_d: 1": object(member("_d", number(10000))), `"a: b": "c: d"`: object(member("a: b", text("c: d"))), `"\"": "\":"`: object(member("\"", text("\":"))), "-1": number(-10000), "- -1": list(number(-10000)), "a:\n\n#\n  - 1": object(member("a", list(number(10000)))), "A: 1\na: 2": object(member("A", number(10000)), member("a", number(20000))),
		"-\n  a: 1\n-\n  a: 1": list(object(member("a", number(10000))), object(member("a", number(10000)))),
	} {
		if d, f := yamltext.Parse(s); f != (api.Fault{}) || !reflect.DeepEqual(d, want) {
			t.Errorf("Parse(%.60q): %v, %v, want %v", s, d, f, want)
		}
	}
}

// blocks returns the lines of all blocks with n lines at an indentation, with the items and members of a few texts in any order; twice tells whether labels may occur twice.
func blocks(indent, n int, twice bool) [][]string {
	var all [][]string
	var extend func(block []string, starts []string, left int)
	extend = func(block []string, starts []string, left int) {
		if left == 0 {
			all = append(all, slices.Clone(block))
			return
		}
		for i, start := range starts {
			rest := starts
			if start != "-" && !twice {
				rest = slices.Delete(slices.Clone(starts), i, i+1)
			}
			line := strings.Repeat(" ", indent) + start
			extend(append(slices.Clone(block), line+" 1"), rest, left-1)
			for m := 1; m < left; m++ {
				for _, inner := range blocks(indent+2, m, twice) {
					extend(append(append(slices.Clone(block), line), inner...), rest, left-1-m)
				}
			}
		}
	}
	if n > 0 {
		extend(nil, []string{"-"}, n)
		extend(nil, []string{"a:", "b:"}, n)
	}
	return all
}

// TestLines compares the faults with the definition, for all texts of a few lines: whether there is data whose text goes on as the lines do (P38.2).
func TestLines(t *testing.T) {
	prefixes := map[bool]map[string]bool{false: {}, true: {}}
	whole := map[string]bool{"1": true, "[]": true}
	for _, twice := range []bool{false, true} {
		for n := 1; n <= 5; n++ {
			for _, l := range blocks(0, n, twice) {
				for i := range l {
					prefixes[twice][strings.Join(l[:i+1], "\n")] = true
				}
				if !twice {
					whole[strings.Join(l, "\n")] = true
				}
			}
		}
		for s := range whole {
			prefixes[twice][s] = true
		}
	}
	expected := func(l []string) api.Fault {
		for i := range l {
			s := strings.Join(l[:i+1], "\n")
			switch {
			case prefixes[false][s]:
			case prefixes[true][s]:
				return api.Fault{Errno: api.ErrTwice, At: i + 1}
			default:
				return api.Fault{Errno: api.ErrText, At: i + 1}
			}
		}
		if !whole[strings.Join(l, "\n")] {
			return api.Fault{Errno: api.ErrText, At: len(l) + 1}
		}
		return api.Fault{}
	}
	var starts []string
	for _, indent := range []string{"", "  ", "    ", "      "} {
		for _, s := range []string{"-", "- 1", "a:", "a: 1", "b:", "b: 1"} {
			starts = append(starts, indent+s)
		}
	}
	starts = append(starts, "1", "[]", " - 1", "   a: 1")
	var all func(l []string, n int)
	all = func(l []string, n int) {
		want := expected(l)
		if _, f := yamltext.Parse(strings.Join(l, "\n")); f != want {
			t.Errorf("Parse(%q): %v, want %v", l, f, want)
		}
		if n > 0 && want.At > len(l) || want == (api.Fault{}) && n > 0 {
			for _, s := range starts {
				all(append(slices.Clone(l), s), n-1)
			}
		}
	}
	all(nil, 4)
}
