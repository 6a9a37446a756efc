package conjunct_test

import (
	"fmt"
	"slices"
	"strconv"
	"strings"
	"testing"

	"configlang/api"
	"configlang/conjunct"
	"configlang/parser"
)

// pack returns a package with some files; false if one is not accepted.
func pack(path string, texts ...string) (api.Package, bool) {
	p := api.Package{Path: path}
	for _, s := range texts {
		f, fault := parser.File(s)
		if fault != (api.Fault{}) {
			return api.Package{}, false
		}
		p.Files = append(p.Files, f)
	}
	return p, true
}

// mustPack returns a package with some files.
func mustPack(t *testing.T, path string, texts ...string) api.Package {
	t.Helper()
	p, ok := pack(path, texts...)
	if !ok {
		t.Fatalf("%q is not accepted", texts)
	}
	return p
}

// program returns the program of one package.
func program(t *testing.T, texts ...string) api.Program {
	t.Helper()
	return api.Program{Packages: []api.Package{mustPack(t, "main", texts...)}}
}

// place returns the place with a package and labels that are separated by points.
func place(pack int, labels string) api.Place {
	q := api.Place{Package: pack}
	if labels != "" {
		q.Labels = strings.Split(labels, ".")
	}
	return q
}

// name returns the labels of a place, with its package if that is not the main one.
func name(q api.Place) string {
	s := strings.Join(q.Labels, ".")
	if q.Package > 0 {
		return strconv.Itoa(q.Package) + ":" + s
	}
	return s
}

// brief returns a short text of an expression.
func brief(e api.Expr) string {
	var subs []string
	for _, sub := range e.Subs {
		subs = append(subs, brief(sub))
	}
	switch e.Kind {
	case api.ExNumber:
		return strconv.FormatInt(e.Num/api.Unit, 10)
	case api.ExRef:
		if e.Names[0] == "let" {
			return e.Text + "=" + subs[0]
		}
		return e.Text + map[string]string{"field": "^" + strconv.FormatInt(e.Num, 10), "package": "@" + strconv.FormatInt(e.Num, 10), "loop": "*"}[e.Names[0]]
	case api.ExSelect:
		return subs[0] + "." + e.Text
	case api.ExStruct:
		return "{}"
	case api.ExValue:
		return "value"
	}
	return e.Text + "(" + strings.Join(subs, " ") + ")"
}

// show returns a line for each node: the labels, the presence, the conjuncts with the labels of the places that enclose them, the package, the file and the position, and the shapes.
func show(l []api.Node) []string {
	var lines []string
	for _, n := range l {
		s := name(n.Place) + " " + []string{"", "present", "required"}[n.Presence]
		for _, c := range n.Conjuncts {
			s += ", " + brief(c.Expr) + " in"
			for _, q := range c.Env {
				s += " /" + name(q)
			}
			s += fmt.Sprintf(" %d:%d:%d", c.Package, c.File, c.Expr.Pos)
		}
		for _, q := range n.Shapes {
			s += ", like " + name(q)
		}
		lines = append(lines, s)
	}
	return lines
}

// TestExamples checks the examples of the chapter.
func TestExamples(t *testing.T) {
	l, e := conjunct.Expand(program(t, "t: {a: int, b: a}, x: t & {a: 1}"))
	want := []string{
		" present, {} in 0:0:0",
		"t present, {} in / 0:0:3",
		"t.a present, int() in / /t 0:0:7",
		"t.b present, int() in / /t 0:0:7",
		"x present, {} in / 0:0:3, {} in / 0:0:26",
		"x.a present, int() in / /x 0:0:7, 1 in / /x 0:0:30",
		"x.b present, int() in / /x 0:0:7, 1 in / /x 0:0:30",
	}
	if got := show(l); e != api.OK || !slices.Equal(got, want) {
		t.Errorf("%d\n%s", e, strings.Join(got, "\n"))
	}
	if l, e := conjunct.Expand(program(t, "x: {y: x}")); e != api.ErrDepth || l != nil {
		t.Errorf("%v, %d", l, e)
	}
}

// TestRules checks the nodes of small programs (P34.1).
func TestRules(t *testing.T) {
	for i, c := range []struct {
		texts []string
		want  []string // without the root
	}{
		// Fields: an optional one counts as soon as its label is active by another one.
		{[]string{"a?: 1, b!: 2, \"c d\": 3"}, []string{"b required, 2 in / 0:0:11", "c d present, 3 in / 0:0:21"}},
		{[]string{"a?: 1, a!: 2", "a: 3"}, []string{"a present, 1 in / 0:0:4, 2 in / 0:0:11, 3 in / 0:1:3"}},
		{[]string{"a!: 1", "a?: 3"}, []string{"a required, 1 in / 0:0:4, 3 in / 0:1:4"}},
		// Patterns, also of other structs, and after the label.
		{[]string{"[=~\"a.*\"]: 1, b: 2, aa: 3, [=~\".b\"]: 4", "ab: 5"}, []string{"aa present, 1 in / 0:0:11, 3 in / 0:0:24", "ab present, 1 in / 0:0:11, 4 in / 0:0:37, 5 in / 0:1:4", "b present, 2 in / 0:0:17"}},
		{[]string{"x: {a: 1} & {[string]: 2} & {b?: 3}"}, []string{"x present, {} in / 0:0:3, {} in / 0:0:12, {} in / 0:0:28", "x.a present, 1 in / /x 0:0:7, 2 in / /x 0:0:23"}},
		// Embedded expressions, and what waits for data.
		{[]string{"x: {1, a: 2, let b = 3, ...}"}, []string{"x present, {} in / 0:0:3, 1 in / /x 0:0:4", "x.a present, 2 in / /x 0:0:10"}},
		{[]string{"x: {if a {b: 1}, a: 2, for k, v in a {c: k}, (\"d\"): 3}"}, []string{"x present, {} in / 0:0:3, value in / /x 0:0:4, value in / /x 0:0:23, value in / /x 0:0:45", "x.a present, 2 in / /x 0:0:20"}},
		{[]string{"t, t: {a: 1}"}, []string{"a present, 1 in / / 0:0:10", "t present, {} in / 0:0:6", "t.a present, 1 in / /t 0:0:10"}},
		// Conjunctions and references.
		{[]string{"a: 1 & (2 & b), b: 3"}, []string{"a present, 1 in / 0:0:3, 2 in / 0:0:8, 3 in / 0:0:19", "b present, 3 in / 0:0:19"}},
		{[]string{"a: b, b: a & int"}, []string{"a present, int() in / 0:0:13", "b present, int() in / 0:0:13"}},
		{[]string{"a: a"}, []string{"a present"}},
		{[]string{"a: b.c, b: {c: 1}, d: b.e, e: 1 | b.c"}, []string{"a present, 1 in / /b 0:0:15", "b present, {} in / 0:0:11", "b.c present, 1 in / /b 0:0:15", "d present, b^0.e in / 0:0:22", "e present, (1 b^0.c) in / 0:0:30"}},
		{[]string{"a: {b: c.d, c: e}, e: {d: 1}"}, []string{"a present, {} in / 0:0:3", "a.b present, 1 in / /a.c 0:0:26", "a.c present, {} in / 0:0:22", "a.c.d present, 1 in / /a.c 0:0:26", "e present, {} in / 0:0:22", "e.d present, 1 in / /e 0:0:26"}},
		// Templates: names are looked up where the struct is used.
		{[]string{"t: {a: 1, b: {c: a}}, x: t.b, y: t & {a: 2}"}, []string{"t present, {} in / 0:0:3", "t.a present, 1 in / /t 0:0:7", "t.b present, {} in / /t 0:0:13", "t.b.c present, 1 in / /t 0:0:7", "x present, {} in / /t 0:0:13", "x.c present, 1 in / /t 0:0:7", "y present, {} in / 0:0:3, {} in / 0:0:37", "y.a present, 1 in / /y 0:0:7, 2 in / /y 0:0:41", "y.b present, {} in / /y 0:0:13", "y.b.c present, 1 in / /y 0:0:7, 2 in / /y 0:0:41"}},
		// Lets: those of the package may stand in another file.
		{[]string{"a: l, b: l.c, d: {let m = {e: f, g: l}, f: 1, h: m}", "let l = {c: 2}"}, []string{
			"a present, {} in / 0:1:8", "a.c present, 2 in / /a 0:1:12", "b present, l={}.c in / 0:0:9", "d present, {} in / 0:0:17",
			"d.f present, 1 in / /d 0:0:43", "d.h present, {} in / /d 0:0:26", "d.h.e present, 1 in / /d 0:0:43", "d.h.g present, {} in / 0:1:8", "d.h.g.c present, 2 in / /d.h.g 0:1:12"}},
		{[]string{"let l = {c: 2}, a: l & l, b: l"}, []string{"a present, {} in / 0:0:8", "a.c present, 2 in / /a 0:0:12", "b present, {} in / 0:0:8", "b.c present, 2 in / /b 0:0:12"}},
		{[]string{"x: {let l = y, y: 1, z: {a: l}}"}, []string{"x present, {} in / 0:0:3", "x.y present, 1 in / /x 0:0:18", "x.z present, {} in / /x 0:0:24", "x.z.a present, 1 in / /x 0:0:18"}},
		// Shapes: of references to definitions that are nodes, also those that are copied.
		{[]string{"#d: {#e: 1}, x: #d, y: x & #d.#e, z: #d.#f, let l = #d, w: l", "v: x.#e & #d"}, []string{
			"#d present, {} in / 0:0:4", "#d.#e present, 1 in / /#d 0:0:9",
			"v present, {} in / 0:0:4, 1 in / /x 0:0:9, like #d, like x.#e", "v.#e present, 1 in / /v 0:0:9", "w present, {} in / 0:0:4, like #d", "w.#e present, 1 in / /w 0:0:9",
			"x present, {} in / 0:0:4, like #d", "x.#e present, 1 in / /x 0:0:9", "y present, {} in / 0:0:4, 1 in / /#d 0:0:9, like #d, like #d.#e", "y.#e present, 1 in / /y 0:0:9", "z present, #d^0.#f in / 0:0:37"}},
	} {
		l, e := conjunct.Expand(program(t, c.texts...))
		if got := show(l); e != api.OK || !slices.Equal(got[1:], c.want) {
			t.Errorf("case %d: %q: %d\n%s\nwant\n%s", i, c.texts, e, strings.Join(got, "\n"), strings.Join(c.want, "\n"))
		}
	}
}

// TestPackages checks references to other packages (P34.1).
func TestPackages(t *testing.T) {
	p := api.Program{Packages: []api.Package{
		mustPack(t, "main", "import q \"m/q\"\na: q.x, b: 1 + q.y, c: l, let k = q", "import q \"m/r\"\nimport #r \"m/r\"\nlet l = {u: q & k, v: #r}, d: #r.y"),
		mustPack(t, "m/q", "x: {z: y}, y: 1"),
		{Path: "m/empty"},
		mustPack(t, "m/r", "import r \"m/r\"\ny: 2, w?: r"),
	}}
	l, e := conjunct.Expand(p)
	want := []string{
		" present, {} in 0:0:0, {} in 0:1:0",
		"a present, {} in /1: 1:0:3",
		"a.z present, 1 in /1: 1:0:14",
		"b present, +(1 q@1001.y) in / 0:0:26",
		"c present, {} in / 0:1:39",
		"c.u present, {} in 1:0:0, {} in 3:0:0", // q of the second file, and of the first one, in which k stands
		"c.u.x present, {} in /c.u 1:0:3",
		"c.u.x.z present, 1 in /c.u 1:0:14, 2 in /c.u 3:0:18",
		"c.u.y present, 1 in /c.u 1:0:14, 2 in /c.u 3:0:18",
		"c.v present, {} in 3:0:0, like 3:",
		"c.v.y present, 2 in /c.v 3:0:18",
		"d present, 2 in /3: 3:0:18",
		"1: present, {} in 1:0:0",
		"1:x present, {} in /1: 1:0:3",
		"1:x.z present, 1 in /1: 1:0:14",
		"1:y present, 1 in /1: 1:0:14",
		"3: present, {} in 3:0:0",
		"3:y present, 2 in /3: 3:0:18",
	}
	if got := show(l); e != api.OK || !slices.Equal(got, want) {
		t.Errorf("%d\n%s", e, strings.Join(got, "\n"))
	}
	q := api.Program{Packages: []api.Package{mustPack(t, "main", "a: 1"), mustPack(t, "m/q", "import p \"main\"\nb: -p.a, c: p")}}
	l, e = conjunct.Expand(q)
	want = []string{" present, {} in 0:0:0", "a present, 1 in / 0:0:3", "1: present, {} in 1:0:0", "1:b present, -(p@1000.a) in /1: 1:0:19", "1:c present, {} in 0:0:0", "1:c.a present, 1 in /1:c 0:0:3"}
	if got := show(l); e != api.OK || !slices.Equal(got, want) {
		t.Errorf("%d\n%s", e, strings.Join(got, "\n"))
	}
}
