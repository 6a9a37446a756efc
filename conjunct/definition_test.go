package conjunct_test

import (
	"fmt"
	"maps"
	"reflect"
	"slices"
	"strings"
	"testing"

	"configlang/api"
	"configlang/conjunct"
	"configlang/parser"
	"configlang/regex"
	"configlang/scopes"
)

// random returns numbers that are the same in each run.
type random uint64

func (x *random) below(n int) int {
	*x = *x*6364136223846793005 + 1442695040888963407
	return int(uint64(*x)>>33) % n
}

// pick returns one of some elements.
func pick[T any](x *random, l ...T) T {
	return l[x.below(len(l))]
}

// model is the definition of the chapter, rule by rule: the conjuncts of each place by their texts.
type model struct {
	p      api.Program
	texts  map[*api.Expr]string
	places map[string]api.Place
	sets   map[string]map[string]api.Conjunct
	grown  bool
	deep   bool
	total  int
}

// newModel returns the model of a program with known names and imports.
func newModel(p api.Program) *model {
	m := &model{texts: map[*api.Expr]string{}, places: map[string]api.Place{}, sets: map[string]map[string]api.Conjunct{}}
	for _, pack := range p.Packages {
		r, _ := scopes.Resolve(pack)
		m.p.Packages = append(m.p.Packages, r)
	}
	for i, pack := range m.p.Packages {
		for j, f := range pack.Files {
			m.linkDecls(f.Decls, i, j)
			m.add(api.Place{Package: i}, &api.Expr{Kind: api.ExStruct, Decls: f.Decls}, api.Conjunct{Package: i, File: j})
		}
	}
	for m.grown = true; m.grown && len(m.sets) <= api.MaxNodes && m.total < 2000; {
		m.grown = false
		for _, key := range slices.Sorted(maps.Keys(m.sets)) {
			for _, c := range slices.Collect(maps.Values(m.sets[key])) {
				m.apply(m.places[key], c)
			}
		}
	}
	return m
}

// linkDecls numbers the references to packages in declarations of a file.
func (m *model) linkDecls(l []api.Decl, pack, file int) {
	for _, d := range l {
		m.linkExprs(d.Subs, pack, file)
		m.linkDecls(d.Body, pack, file)
	}
}

// linkExprs numbers the references to packages in expressions of a file.
func (m *model) linkExprs(l []api.Expr, pack, file int) {
	for i := range l {
		e, inner := &l[i], file
		switch {
		case e.Kind == api.ExRef && e.Names[0] == "package":
			for _, im := range m.p.Packages[pack].Files[file].Imports {
				for n, other := range m.p.Packages {
					if im.Name == e.Text && other.Path == im.Path {
						e.Num = int64(1000 + n)
					}
				}
			}
		case e.Kind == api.ExRef && e.Names[0] == "let" && e.Num == 0:
			inner = m.fileOf(e.Text, pack)
		}
		m.linkExprs(e.Subs, pack, inner)
		m.linkDecls(e.Decls, pack, inner)
	}
}

// fileOf returns the file of a let of a package scope.
func (m *model) fileOf(name string, pack int) int {
	for i, f := range m.p.Packages[pack].Files {
		for _, d := range f.Decls {
			if d.Kind == api.DcLet && d.Label == name {
				return i
			}
		}
	}
	return -1
}

// add adds a conjunct with an expression to a place.
func (m *model) add(q api.Place, e *api.Expr, c api.Conjunct) {
	if m.texts[e] == "" {
		m.texts[e] = fmt.Sprint(*e)
	}
	c.Expr = *e
	m.put(q, "{"+m.texts[e]+" "+fmt.Sprint(c.Env, c.Package, c.File)+"}", c)
}

// put adds a conjunct with a text to a place.
func (m *model) put(q api.Place, text string, c api.Conjunct) {
	if len(q.Labels) > api.MaxDepth {
		m.deep = true
		return
	}
	key := fmt.Sprint(q)
	if m.sets[key] == nil {
		m.sets[key] = map[string]api.Conjunct{}
		m.places[key] = q
	}
	if _, ok := m.sets[key][text]; !ok {
		m.sets[key][text] = c
		m.grown = true
		m.total++
	}
}

// below returns a place with more labels.
func below(q api.Place, labels ...string) api.Place {
	return api.Place{Package: q.Package, Labels: slices.Concat(q.Labels, labels)}
}

// active returns the labels that are active at a place, with their presence.
func (m *model) active(q api.Place) map[string]int {
	active := map[string]int{}
	for _, c := range m.sets[fmt.Sprint(q)] {
		for _, d := range c.Expr.Decls {
			if c.Expr.Kind == api.ExStruct && d.Kind == api.DcField && d.Presence != api.Optional && (active[d.Label] == 0 || d.Presence < active[d.Label]) {
				active[d.Label] = d.Presence
			}
		}
	}
	return active
}

// target returns the place to which a reference refers.
func target(e api.Expr, env []api.Place) (api.Place, bool) {
	switch {
	case e.Kind == api.ExSelect:
		q, ok := target(e.Subs[0], env)
		return below(q, e.Text), ok
	case e.Kind == api.ExRef && e.Names[0] == "field":
		return below(env[e.Num], e.Text), true
	case e.Kind == api.ExRef && e.Names[0] == "package":
		return api.Place{Package: int(e.Num - 1000)}, true
	}
	return api.Place{}, false
}

// apply applies the rules to a conjunct of a place.
func (m *model) apply(q api.Place, c api.Conjunct) {
	e := c.Expr
	with := func(env []api.Place) api.Conjunct {
		return api.Conjunct{Env: env, Package: c.Package, File: c.File}
	}
	switch {
	case e.Kind == api.ExStruct:
		env := append(slices.Clone(c.Env), q)
		for _, d := range e.Decls {
			switch d.Kind {
			case api.DcEmbed:
				m.add(q, &d.Subs[0], with(env))
			case api.DcIf, api.DcFor, api.DcDynamic:
				m.add(q, &api.Expr{Kind: api.ExValue, Decls: []api.Decl{d}, Pos: d.Pos}, with(env))
			case api.DcField, api.DcPattern:
				for label := range m.active(q) {
					r, _ := regex.Parse(d.Label)
					if d.Kind == api.DcField && d.Label == label || d.Kind == api.DcPattern && regex.Match(r, label) {
						m.add(below(q, label), &d.Subs[0], with(env))
					}
				}
			}
		}
	case e.Kind == api.ExAnd:
		m.add(q, &e.Subs[0], with(c.Env))
		m.add(q, &e.Subs[1], with(c.Env))
	case e.Kind == api.ExRef && e.Names[0] == "let":
		let := with(c.Env[:e.Num+1])
		if e.Num == 0 {
			let.File = m.fileOf(e.Text, c.Package)
		}
		m.add(q, &e.Subs[0], let)
	}
	if to, ok := target(e, c.Env); ok {
		for text, d := range m.sets[fmt.Sprint(to)] {
			m.put(q, text, d)
		}
	}
}

// nodes returns a text of each node.
func (m *model) nodes() []string {
	var l []string
	for key, set := range m.sets {
		q := m.places[key]
		presence := api.Present
		if n := len(q.Labels); n > 0 {
			presence = m.active(api.Place{Package: q.Package, Labels: q.Labels[:n-1]})[q.Labels[n-1]]
		}
		var conjuncts, shapes []string
		for text, c := range set {
			to, ok := target(c.Expr, c.Env)
			ok = ok && m.sets[fmt.Sprint(to)] != nil
			if ok && strings.HasPrefix(c.Expr.Text, "#") {
				shapes = append(shapes, fmt.Sprint(to))
			}
			if !ok && c.Expr.Kind != api.ExAnd && (c.Expr.Kind != api.ExRef || c.Expr.Names[0] != "let") {
				conjuncts = append(conjuncts, text)
			}
		}
		l = append(l, nodeText(q, presence, conjuncts, shapes))
	}
	slices.Sort(l)
	return l
}

// nodeText returns the text of a node whose conjuncts and shapes are in any order.
func nodeText(q api.Place, presence int, conjuncts, shapes []string) string {
	slices.Sort(conjuncts)
	slices.Sort(shapes)
	return fmt.Sprint(q, presence, conjuncts, slices.Compact(shapes))
}

// texts returns the texts of nodes.
func texts(t *testing.T, l []api.Node) []string {
	t.Helper()
	var all []string
	for i, n := range l {
		var conjuncts, shapes []string
		for j, c := range n.Conjuncts {
			conjuncts = append(conjuncts, "{"+fmt.Sprint(c.Expr)+" "+fmt.Sprint(c.Env, c.Package, c.File)+"}")
			if j > 0 && compare(n.Conjuncts[j-1], c) >= 0 {
				t.Fatalf("the conjuncts of %v are not in order", n)
			}
		}
		for j, q := range n.Shapes {
			shapes = append(shapes, fmt.Sprint(q))
			if j > 0 && conjunct.ComparePlace(n.Shapes[j-1], q) >= 0 {
				t.Fatalf("the shapes of %v are not in order", n)
			}
		}
		if i > 0 && conjunct.ComparePlace(l[i-1].Place, n.Place) >= 0 {
			t.Fatalf("%v is not in order", n.Place)
		}
		if k := len(n.Place.Labels); k > 0 && conjunct.Find(l, api.Place{Package: n.Place.Package, Labels: n.Place.Labels[:k-1]}) < 0 {
			t.Fatalf("%v has no parent", n.Place)
		}
		all = append(all, nodeText(n.Place, n.Presence, conjuncts, shapes))
	}
	slices.Sort(all)
	return all
}

// compare compares conjuncts by what the chapter names.
func compare(a, b api.Conjunct) int {
	x := []int{a.Package, a.File, a.Expr.Pos}
	y := []int{b.Package, b.File, b.Expr.Pos}
	if c := slices.Compare(x, y); c != 0 {
		return c
	}
	return slices.CompareFunc(a.Env, b.Env, conjunct.ComparePlace)
}

// source writes random texts with few names.
type source struct {
	*random
	imports []string
}

func (s source) name() string {
	return pick(s.random, append([]string{"a", "b", "c", "#d", "a", "b"}, s.imports...)...)
}

func (s source) file() string {
	text := ""
	for _, name := range s.imports {
		text += "import " + name + " \"m/" + name + "\"\n"
	}
	var l []string
	for range 1 + s.below(5) {
		l = append(l, s.decl(3))
	}
	return text + strings.Join(l, ", ")
}

func (s source) decls(depth int) string {
	var l []string
	for range s.below(4) {
		l = append(l, s.decl(depth))
	}
	return strings.Join(l, ", ")
}

func (s source) decl(depth int) string {
	switch s.below(14) {
	case 0:
		return "let " + pick(s.random, "l", "m") + " = " + s.expr(depth)
	case 1:
		return s.name() + pick(s.random, "?: ", "!: ") + s.expr(depth)
	case 2:
		return "[=~\"" + pick(s.random, "a|b", "[a-c]", ".*", "b+") + "\"]: " + s.expr(depth)
	case 3:
		return s.expr(depth)
	case 4:
		return pick(s.random, "if a {b: c}", "for k, v in a {(k): v, c: b}", "(\"x\"): a", "...")
	}
	return pick(s.random, "a", "b", "c", "#d") + ": " + s.expr(depth)
}

func (s source) expr(depth int) string {
	if depth <= 0 {
		return pick(s.random, s.name(), "1", "int", s.name()+"."+s.name())
	}
	switch s.below(9) {
	case 0, 1, 2:
		return "{" + s.decls(depth-1) + "}"
	case 3, 4:
		return s.expr(depth-1) + " & " + s.expr(depth-1)
	case 5:
		return s.name() + "." + s.name()
	case 6:
		return pick(s.random, "l", "m", "l.a", "m", "1 | b", "[a, b]")
	case 7:
		return "2"
	}
	return s.name()
}

// someProgram returns a random program without errors of names; false if the texts give none.
func someProgram(x *random) (api.Program, bool) {
	s := source{random: x}
	if x.below(2) == 0 {
		s.imports = []string{"q"}
	}
	mainPack, ok := pack("main", s.file(), s.file())
	p := api.Program{Packages: []api.Package{mainPack}}
	if s.imports != nil {
		other, fine := pack("m/q", source{random: x}.file())
		p.Packages = append(p.Packages, other)
		ok = ok && fine
	}
	if !ok {
		return p, false
	}
	for _, pack := range p.Packages {
		unknown, e := scopes.Undefined(pack)
		if _, re := scopes.Resolve(pack); e != api.OK || re != api.OK || len(unknown) > 0 {
			return p, false
		}
	}
	return p, true
}

// TestRandom compares the nodes of random programs with those of the definition (P34.1, P34.3).
func TestRandom(t *testing.T) {
	x := random(34)
	counts := map[api.Errno]int{}
	large := 0
	for counts[api.OK] < 500 {
		p, ok := someProgram(&x)
		if !ok {
			continue
		}
		before := fmt.Sprint(p)
		l, e := conjunct.Expand(p)
		counts[e]++
		if fmt.Sprint(p) != before {
			t.Fatal("the program is changed")
		}
		m := newModel(p)
		switch {
		case len(m.sets) > api.MaxNodes:
			if e != api.ErrLimit || l != nil {
				t.Fatalf("%v: %d, want ErrLimit", p, e)
			}
			continue
		case m.total >= 2000:
			large++
			continue
		case m.deep:
			if e != api.ErrDepth || l != nil {
				t.Fatalf("%v: %d, want ErrDepth", p, e)
			}
			continue
		}
		if got, want := texts(t, l), m.nodes(); e != api.OK || !slices.Equal(got, want) {
			t.Fatalf("%v: %d\n%s\nwant\n%s", p, e, strings.Join(got, "\n"), strings.Join(want, "\n"))
		}
		checkOrder(t, p, l)
	}
	if counts[api.ErrLimit] < 10 || counts[api.ErrDepth] < 50 || large > 40 {
		t.Errorf("counts: %v, %d", counts, large)
	}
}

// checkOrder checks that the nodes are the same with the declarations of files and the files of the first package in another order (P34.3).
func checkOrder(t *testing.T, p api.Program, l []api.Node) {
	t.Helper()
	first := p.Packages[0]
	files := slices.Clone(first.Files)
	for i := range files {
		files[i].Decls = slices.Clone(files[i].Decls)
		slices.Reverse(files[i].Decls)
	}
	slices.Reverse(files)
	other := api.Program{Packages: slices.Clone(p.Packages)}
	other.Packages[0] = api.Package{Path: first.Path, Files: files}
	m, e := conjunct.Expand(other)
	if e != api.OK {
		t.Fatalf("%v in another order: %d", p, e)
	}
	for i := range m {
		for j := range m[i].Conjuncts {
			if c := &m[i].Conjuncts[j]; c.Package == 0 {
				c.File = len(files) - 1 - c.File
			}
		}
		slices.SortFunc(m[i].Conjuncts, compare)
	}
	// The declarations within a file are shown by their positions alone.
	if got, want := show(m), show(l); !slices.Equal(got, want) {
		t.Fatalf("%v in another order:\n%s\nwant\n%s", p, strings.Join(got, "\n"), strings.Join(want, "\n"))
	}
}

// TestErrors checks the errors of Expand and their order (P34.1).
func TestErrors(t *testing.T) {
	invalid := api.Package{Files: []api.File{{Decls: []api.Decl{{Kind: api.DcField}}}}}
	cycle := mustPack(t, "c", "let a = b, let b = a")
	missing := mustPack(t, "i", "import q \"m/none\"\na: zz")
	doubled := mustPack(t, "d", "import q \"m/q\"\na: 1")
	unknown := mustPack(t, "u", "a: {b: [for k, v in zz: k]}")
	unused := mustPack(t, "u", "let a = zz")
	deep := mustPack(t, "p", "x: {y: x}")
	q := mustPack(t, "m/q", "a: 1")
	many := mustPack(t, "l", "x: {y: x, z: x}")
	for i, c := range []struct {
		packs []api.Package
		e     api.Errno
	}{
		{nil, api.ErrSize},
		{[]api.Package{{}}, api.OK},
		{[]api.Package{missing, unknown, deep, invalid, cycle}, api.ErrKind},
		{[]api.Package{missing, unknown, deep, cycle, invalid}, api.ErrCycle},
		{[]api.Package{missing, unknown, deep, mustPack(t, "n", "package a\n", "package b\n")}, api.ErrName},
		{[]api.Package{unknown, deep, missing}, api.ErrImport},
		{[]api.Package{unknown, doubled, q, q}, api.ErrImport},
		{[]api.Package{doubled}, api.ErrImport},
		{[]api.Package{doubled, q}, api.OK},
		{[]api.Package{q, q}, api.OK},
		{[]api.Package{q, doubled}, api.OK},
		{[]api.Package{deep, many, unknown}, api.ErrName},
		{[]api.Package{deep, unused}, api.ErrName},
		{[]api.Package{deep, many}, api.ErrLimit},
		{[]api.Package{many}, api.ErrLimit},
		{[]api.Package{deep}, api.ErrDepth},
		{[]api.Package{q, deep}, api.ErrDepth},
	} {
		l, e := conjunct.Expand(api.Program{Packages: c.packs})
		if e != c.e || e != api.OK && l != nil {
			t.Errorf("case %d: %d, want %d", i, e, c.e)
		}
	}
}

// fields returns n fields.
func fields(n int) string {
	var l []string
	for i := range n {
		l = append(l, fmt.Sprintf("x%d: 1", i))
	}
	return strings.Join(l, "\n")
}

// beyond returns a program with 61 + 9 n nodes, and one place with too many labels that refers to n fields.
func beyond(n int) string {
	return "a: {b: {c: {d: e}}}, e: {b: {c: {d: f}}}, f: {b: {c: {d: g}}}, g: {b: {c: {d: h}}}, h: {b: {c: {d: {i: big}}, k: c.d.i}}, big: {" + fields(n) + "}"
}

// TestLimits checks the numbers of nodes and labels (P34.1).
func TestLimits(t *testing.T) {
	for i, c := range []struct {
		texts []string
		e     api.Errno
		nodes int
	}{
		{[]string{fields(399)}, api.OK, 400},
		{[]string{fields(400)}, api.ErrLimit, 0},
		{[]string{fields(200), fields(399)}, api.OK, 400},
		{[]string{fields(398) + "\ny: {a: 1, a: 2, b?: 3}"}, api.ErrLimit, 0},
		{[]string{fields(397) + "\ny: {a: 1, a: 2, b?: 3}"}, api.OK, 400},
		// Structs of 4 levels that refer to each other: places with up to 16 labels, and one more.
		{[]string{"a: {b: {c: {d: e}}}, e: {b: {c: {d: f}}}, f: {b: {c: {d: g}}}, g: {b: {c: {d: 1}}}"}, api.OK, 1 + 13 + 10 + 7 + 4},
		{[]string{"a: {b: {c: {d: e}}}, e: {b: {c: {d: f}}}, f: {b: {c: {d: g}}}, g: {b: {c: {d: h}}}, h: {b: {c: {d: 1}}}"}, api.OK, 1 + 16 + 13 + 10 + 7 + 4},
		{[]string{"a: {b: {c: {d: e}}}, e: {b: {c: {d: f}}}, f: {b: {c: {d: g}}}, g: {b: {c: {d: h}}}, h: {b: {c: {d: {i: 1}}}}"}, api.ErrDepth, 0},
		// The i of h in g in f in e in a has 17 labels, and thus no conjuncts that it could give to the k that refers to it.
		{[]string{beyond(37)}, api.ErrDepth, 0},
		{[]string{beyond(38)}, api.ErrLimit, 0},
	} {
		l, e := conjunct.Expand(program(t, c.texts...))
		if e != c.e || len(l) != c.nodes {
			t.Errorf("case %d: %d, %d nodes, want %d, %d", i, e, len(l), c.e, c.nodes)
		}
	}
	// These nodes, and 16 of x: places beyond the limit do not count as nodes.
	for n, want := range map[int]api.Errno{384: api.ErrDepth, 385: api.ErrLimit} {
		if _, e := conjunct.Expand(program(t, "x: {y: x}\n"+fields(n-1))); e != want {
			t.Errorf("%d nodes: %d, want %d", n, e, want)
		}
	}
}

// TestMany checks a program whose conjuncts are many times more than its expressions (P34.1).
func TestMany(t *testing.T) {
	const width, depth = 8, 5
	s := "x0: {a: {a: {a: {a: {a: 1}}}}}\n"
	for d := 1; d <= depth; d++ {
		for i := range width {
			var l []string
			for j := range width {
				l = append(l, fmt.Sprintf("x%dn%d.a", d-1, j))
			}
			if d == 1 {
				l = []string{"x0.a"}
			}
			s += fmt.Sprintf("x%dn%d: %s\n", d, i, strings.Join(l, " & "))
		}
	}
	l, e := conjunct.Expand(program(t, s))
	i := conjunct.Find(l, place(0, "x5n0"))
	if e != api.OK || i < 0 {
		t.Fatalf("%d, %d", i, e)
	}
	// Each of them has another environment: the root, and a place of each of the levels.
	if n := len(l[i].Conjuncts); n != 8*8*8*8 {
		t.Errorf("%d conjuncts", n)
	}
}

// TestMultiplied checks programs whose environments multiply before there are too many nodes (P34.1).
func TestMultiplied(t *testing.T) {
	p := program(t,
		"#d: {b: b.c, {c: b, b.a}, 1 & 1} & a.#d, c: c.a & c, b!: 1 | b, b: a",
		"a: #d, a, #d: {a: 1 & 1 & 1 & b.b, {}, #d: {[=~\"a|b\"]: b.b & b.#d, {a!: c, [=~\"a|b\"]: b.a, [string]: a}, if a {b: c}}}, a: 2")
	if l, e := conjunct.Expand(p); e != api.ErrLimit || l != nil {
		t.Errorf("%d", e)
	}
}

// TestPlaces checks ComparePlace, Find and Children (P34.2).
func TestPlaces(t *testing.T) {
	l := []api.Place{place(-1, "z"), place(0, ""), place(0, "\x00"), place(0, "a"), place(0, "a.a"), place(0, "a.b"), place(0, "aa"), place(0, "b"), place(0, "b.a.a"), place(0, "b.b"), place(0, "\xff"), place(1, ""), place(1, "a")}
	for i, a := range l {
		for j, b := range l {
			want := 0
			if i < j {
				want = -1
			}
			if i > j {
				want = 1
			}
			if got := conjunct.ComparePlace(a, b); got != want {
				t.Errorf("ComparePlace(%v, %v): %d", a, b, got)
			}
		}
	}
	if conjunct.ComparePlace(api.Place{}, api.Place{Labels: []string{}}) != 0 || conjunct.ComparePlace(api.Place{Labels: []string{""}}, api.Place{}) != 1 {
		t.Error("ComparePlace of empty lists")
	}
	var nodes []api.Node
	for _, labels := range []string{"b", "a.c", "a", "a.b.c", "a.c", "aa", "a.b", "", "a"} {
		nodes = append(nodes, api.Node{Place: place(0, labels)}, api.Node{Place: place(2, labels+"2")})
	}
	nodes = append(nodes, api.Node{Place: api.Place{Labels: []string{"a", ""}}})
	for i, c := range []struct {
		q        api.Place
		find     int
		children []string
	}{
		{place(0, ""), 14, []string{"a", "aa", "b"}},
		{place(0, "a"), 4, []string{"", "b", "c"}},
		{place(0, "a.b"), 12, []string{"c"}},
		{place(0, "a.c"), 2, nil},
		{place(0, "z"), -1, nil},
		{place(1, ""), -1, nil},
		{place(2, ""), -1, []string{"2", "a2", "aa2", "b2"}},
		{place(2, "a"), -1, []string{"b2", "c2"}},
		{api.Place{Labels: []string{"a", ""}}, 18, nil},
	} {
		if got := conjunct.Find(nodes, c.q); got != c.find {
			t.Errorf("case %d: Find: %d", i, got)
		}
		if got := conjunct.Children(nodes, c.q); !slices.Equal(got, c.children) {
			t.Errorf("case %d: Children: %q", i, got)
		}
	}
	if conjunct.Find(nil, api.Place{}) != -1 || len(conjunct.Children(nil, api.Place{})) != 0 {
		t.Error("no nodes")
	}
}

// TestSame checks which conjuncts are the same (P34.2).
func TestSame(t *testing.T) {
	text := "{\n// a\na?: 1 + b // b\nlet l = a, for k, v in a {c: k\n// c\n}\n[=~\"x\"]: l.m, d\n// d\n} & \"x\\(e)y\""
	parse := func() api.Conjunct {
		e, f := parser.Expr(text)
		if f != (api.Fault{}) {
			t.Fatal(f)
		}
		return api.Conjunct{Expr: e, Env: []api.Place{place(0, ""), place(1, "a.b")}, Package: 2, File: 3}
	}
	a := parse()
	if !conjunct.Same(a, parse()) || !conjunct.Same(api.Conjunct{}, api.Conjunct{}) {
		t.Fatal("equal conjuncts are not the same")
	}
	empty := api.Conjunct{Expr: api.Expr{Subs: []api.Expr{}, Decls: []api.Decl{}, Tail: []string{}}, Env: []api.Place{}}
	if !conjunct.Same(api.Conjunct{}, empty) {
		t.Error("empty lists")
	}
	// Each number, text and list of the tree is changed once.
	changes := 0
	var change func(v reflect.Value, b *api.Conjunct)
	change = func(v reflect.Value, b *api.Conjunct) {
		switch v.Kind() {
		case reflect.Struct, reflect.Array:
			n := 0
			if v.Kind() == reflect.Struct {
				n = v.NumField()
			} else {
				n = v.Len()
			}
			for i := range n {
				if v.Kind() == reflect.Struct {
					change(v.Field(i), b)
				} else {
					change(v.Index(i), b)
				}
			}
			return
		case reflect.Slice:
			for i := range v.Len() {
				change(v.Index(i), b)
			}
			old := reflect.ValueOf(v.Interface())
			v.Set(reflect.Append(v.Slice3(0, v.Len(), v.Len()), reflect.Zero(v.Type().Elem())))
			defer func() { v.Set(old) }()
		case reflect.String:
			old := v.String()
			v.SetString(old + "!")
			defer func() { v.SetString(old) }()
		case reflect.Int, reflect.Int64:
			old := v.Int()
			v.SetInt(old + 1)
			defer func() { v.SetInt(old) }()
		}
		changes++
		if conjunct.Same(a, *b) || conjunct.Same(*b, a) {
			t.Errorf("%v is the same", *b)
		}
	}
	b := parse()
	change(reflect.ValueOf(&b).Elem(), &b)
	if changes < 200 || !conjunct.Same(a, b) {
		t.Errorf("%d changes", changes)
	}
	// Texts that run into one another.
	x, y := parse(), parse()
	x.Expr.Tail, y.Expr.Tail = []string{"a", "b"}, []string{"ab", ""}
	if conjunct.Same(x, y) {
		t.Error("two lists of strings")
	}
}

// TestStripped checks that expressions that are equal and have equal positions are one conjunct (P34.1).
func TestStripped(t *testing.T) {
	p := program(t, "a: 1 & 1 & 2, b: {c: 3}, b: {c: 3}")
	f := &p.Packages[0].Files[0]
	a, b, c := &f.Decls[0].Subs[0], &f.Decls[1].Subs[0], &f.Decls[2].Subs[0]
	a.Subs[0].Subs[1].Pos = a.Subs[0].Subs[0].Pos
	c.Pos, c.Decls[0].Subs[0].Pos = b.Pos, b.Decls[0].Subs[0].Pos
	l, e := conjunct.Expand(p)
	// The declarations of the structs still differ in their positions, the expressions of c do not.
	want := []string{" present, {} in 0:0:0", "a present, 1 in / 0:0:3, 2 in / 0:0:11", "b present, {} in / 0:0:17, {} in / 0:0:17", "b.c present, 3 in / /b 0:0:21"}
	if got := show(l); e != api.OK || !slices.Equal(got, want) {
		t.Errorf("%d\n%s", e, strings.Join(got, "\n"))
	}
}

// TestMemory checks that the nodes share no memory with the program and with each other.
func TestMemory(t *testing.T) {
	text := "import q \"m/q\"\nlet l = {a: 1}\n#t: {\n// c\na: {b: [1, q]}\n// d\n}\nif l {\nb: 1\n// e\n}\nx: #t & l & #t.a, y: #t & x, z: q\n"
	make := func() api.Program {
		return api.Program{Packages: []api.Package{mustPack(t, "main", text, text[15:17]), mustPack(t, "m/q", "a: 1")}}
	}
	p := make()
	p.Packages[0].Files = p.Packages[0].Files[:1]
	before := fmt.Sprint(p)
	l, e := conjunct.Expand(p)
	if e != api.OK {
		t.Fatal(e)
	}
	want := fmt.Sprint(l)
	seen := map[uintptr]bool{}
	var visit func(v reflect.Value)
	visit = func(v reflect.Value) {
		switch v.Kind() {
		case reflect.Struct:
			for i := range v.NumField() {
				visit(v.Field(i))
			}
		case reflect.Slice:
			if v.Len() > 0 && seen[v.Pointer()] && v.Type().Elem().Size() > 0 {
				t.Fatalf("%v occurs twice", v)
			}
			if v.Len() > 0 {
				seen[v.Pointer()] = true
			}
			for i := range v.Len() {
				visit(v.Index(i))
			}
		}
	}
	visit(reflect.ValueOf(p))
	for i := range l {
		visit(reflect.ValueOf(l[i]))
	}
	if fmt.Sprint(p) != before || fmt.Sprint(l) != want {
		t.Error("the program is changed")
	}
}
