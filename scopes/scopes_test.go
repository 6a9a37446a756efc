package scopes_test

import (
	"cmp"
	"reflect"
	"slices"
	"strconv"
	"strings"
	"testing"

	"configlang/api"
	"configlang/parser"
	"configlang/quote"
	"configlang/scopes"
	"configlang/syntax"
)

// random returns numbers that are the same in each run.
type random uint64

func (x *random) below(n int) int {
	*x = *x*6364136223846793005 + 1442695040888963407
	return int(uint64(*x)>>33) % n
}

// pick returns one of some elements.
func pick[T any](x *random, l ...T) T {
	return l[x.below(len(l))]
}

// pack returns the package with some files.
func pack(t *testing.T, texts ...string) api.Package {
	t.Helper()
	p := api.Package{Path: "m/p"}
	for _, s := range texts {
		f, fault := parser.File(s)
		if fault != (api.Fault{}) {
			t.Fatalf("File(%q): %v", s, fault)
		}
		p.Files = append(p.Files, f)
	}
	return p
}

// frame is a scope or a loop that encloses a place.
type frame struct {
	loop  bool
	names [2]string
	decls [][]api.Decl // of a scope, in each of its files
	file  int          // of a scope that is no package
}

// found is what a name is resolved to: the definition.
type found struct {
	kind, depth int
	let         *api.Decl
	file        int // of the let
	frames      []frame
	imported    *api.Import
}

// find looks for a name from the inside to the outside.
func find(p api.Package, name string, frames []frame, file int) found {
	depth := -1
	for _, f := range frames {
		if !f.loop {
			depth++
		}
	}
	for i := len(frames) - 1; i >= 0; i-- {
		f := frames[i]
		if f.loop {
			if f.names[0] == name || f.names[1] == name {
				return found{kind: scopes.Loop}
			}
			continue
		}
		for n, l := range f.decls {
			for j := range l {
				if l[j].Kind == api.DcLet && l[j].Label == name {
					return found{kind: scopes.Let, depth: depth, let: &l[j], file: max(n, f.file), frames: frames[:i+1]}
				}
			}
		}
		for _, l := range f.decls {
			for _, d := range l {
				if d.Kind == api.DcField && d.Label == name && quote.Ident(name) {
					return found{kind: scopes.Field, depth: depth}
				}
			}
		}
		depth--
	}
	for i := range p.Files[file].Imports {
		if p.Files[file].Imports[i].Name == name {
			return found{kind: scopes.Package, imported: &p.Files[file].Imports[i]}
		}
	}
	return found{}
}

// visitor visits uses and scopes.
type visitor struct {
	p     api.Package
	use   func(e api.Expr, f found, file int)
	scope func(decls [][]api.Decl)
}

func (v visitor) root() frame {
	var f frame
	for _, file := range v.p.Files {
		f.decls = append(f.decls, file.Decls)
	}
	return f
}

func (v visitor) all() {
	root := v.root()
	v.scope(root.decls)
	for i, f := range v.p.Files {
		v.decls(f.Decls, []frame{root}, i)
	}
}

func (v visitor) decls(l []api.Decl, frames []frame, file int) {
	for _, d := range l {
		for _, e := range d.Subs {
			v.expr(e, frames, file)
		}
		inner := frames
		if d.Kind == api.DcFor {
			inner = append(slices.Clone(frames), frame{loop: true, names: d.Names})
		}
		v.decls(d.Body, inner, file)
	}
}

func (v visitor) expr(e api.Expr, frames []frame, file int) {
	if e.Kind == api.ExRef {
		v.use(e, find(v.p, e.Text, frames, file), file)
		return
	}
	for i, s := range e.Subs {
		inner := frames
		if e.Kind == api.ExEach && i > 0 {
			inner = append(slices.Clone(frames), frame{loop: true, names: e.Names})
		}
		v.expr(s, inner, file)
	}
	if e.Kind == api.ExStruct {
		v.scope([][]api.Decl{e.Decls})
		frames = append(slices.Clone(frames), frame{decls: [][]api.Decl{e.Decls}, file: file})
	}
	v.decls(e.Decls, frames, file)
}

// twice reports whether a scope has a name of a let twice, or a file that of an import.
func twice(p api.Package) bool {
	wrong := false
	visitor{p: p, use: func(api.Expr, found, int) {}, scope: func(decls [][]api.Decl) {
		lets, fields := map[string]int{}, map[string]bool{}
		for _, l := range decls {
			for _, d := range l {
				switch d.Kind {
				case api.DcLet:
					lets[d.Label]++
				case api.DcField:
					fields[d.Label] = true
				}
			}
		}
		for name, n := range lets {
			wrong = wrong || n > 1 || fields[name]
		}
	}}.all()
	for _, f := range p.Files {
		for i := range f.Imports {
			for j := range i {
				wrong = wrong || f.Imports[i].Name == f.Imports[j].Name
			}
		}
	}
	return wrong
}

// usesOf is the definition of Uses and Unused.
func usesOf(p api.Package) ([]scopes.Use, []scopes.Definition) {
	var l []scopes.Use
	lets, imports := map[*api.Decl]bool{}, map[*api.Import]bool{}
	v := visitor{p: p, scope: func([][]api.Decl) {}}
	v.use = func(e api.Expr, f found, file int) {
		l = append(l, scopes.Use{File: file, Pos: e.Pos, Name: e.Text, Kind: f.kind, Depth: f.depth})
		lets[f.let], imports[f.imported] = true, true
	}
	v.all()
	// Insertion keeps the order of the tree for the same offset.
	for i := range l {
		for j := i; j > 0 && l[j-1].File == l[j].File && l[j-1].Pos > l[j].Pos; j-- {
			l[j-1], l[j] = l[j], l[j-1]
		}
	}
	var unused []scopes.Definition
	v.use = func(api.Expr, found, int) {}
	file := 0
	v.scope = func(decls [][]api.Decl) {
		for n, part := range decls {
			for i := range part {
				if d := &part[i]; d.Kind == api.DcLet && !lets[d] {
					unused = append(unused, scopes.Definition{File: max(file, n), Pos: d.Pos, Name: d.Label, Kind: scopes.Let})
				}
			}
		}
	}
	root := v.root()
	v.scope(root.decls)
	for i, f := range p.Files {
		file = i
		v.decls(f.Decls, []frame{root}, i)
		for j := range f.Imports {
			if !imports[&f.Imports[j]] {
				unused = append(unused, scopes.Definition{File: i, Pos: f.Imports[j].Pos, Name: f.Imports[j].Name, Kind: scopes.Package})
			}
		}
	}
	slices.SortFunc(unused, func(a, b scopes.Definition) int {
		return cmp.Or(a.File-b.File, a.Pos-b.Pos, strings.Compare(a.Name, b.Name), a.Kind-b.Kind)
	})
	return l, unused
}

// resolver is the definition of Resolve.
type resolver struct {
	p     api.Package
	open  []*api.Decl // the lets whose expressions are being resolved
	cycle bool
}

func (r *resolver) decls(l []api.Decl, frames []frame, file int) []api.Decl {
	l = slices.Clone(l)
	for i := range l {
		d := &l[i]
		d.Subs = slices.Clone(d.Subs)
		for j := range d.Subs {
			d.Subs[j] = r.expr(d.Subs[j], frames, file)
		}
		inner := frames
		if d.Kind == api.DcFor {
			inner = append(slices.Clone(frames), frame{loop: true, names: d.Names})
		}
		d.Body = r.decls(d.Body, inner, file)
	}
	return l
}

func (r *resolver) expr(e api.Expr, frames []frame, file int) api.Expr {
	if e.Kind == api.ExRef {
		return r.ref(e, find(r.p, e.Text, frames, file))
	}
	e.Subs = slices.Clone(e.Subs)
	for i := range e.Subs {
		inner := frames
		if e.Kind == api.ExEach && i > 0 {
			inner = append(slices.Clone(frames), frame{loop: true, names: e.Names})
		}
		e.Subs[i] = r.expr(e.Subs[i], inner, file)
	}
	if e.Kind == api.ExStruct {
		frames = append(slices.Clone(frames), frame{decls: [][]api.Decl{e.Decls}, file: file})
	}
	e.Decls = r.decls(e.Decls, frames, file)
	return e
}

func (r *resolver) ref(e api.Expr, f found) api.Expr {
	e.Names = [2]string{[]string{"unknown", "field", "let", "loop", "package"}[f.kind]}
	e.Num, e.Subs = int64(f.depth), nil
	if f.kind != scopes.Let {
		return e
	}
	if slices.Contains(r.open, f.let) || len(r.open) > 40 {
		r.cycle = true
		return e
	}
	r.open = append(r.open, f.let)
	e.Subs = []api.Expr{r.expr(f.let.Subs[0], f.frames, f.file)}
	r.open = r.open[:len(r.open)-1]
	return e
}

// resolveOf is the definition of Resolve for a package without errors of Uses.
func resolveOf(p api.Package) (api.Package, api.Errno) {
	r := &resolver{p: p}
	v := visitor{p: p}
	result := api.Package{Path: p.Path}
	for i, f := range p.Files {
		f.Decls = r.decls(f.Decls, []frame{v.root()}, i)
		result.Files = append(result.Files, f)
	}
	if r.cycle {
		return api.Package{}, api.ErrCycle
	}
	for _, f := range result.Files {
		if e := syntax.Check(f); e != api.OK {
			return api.Package{}, e
		}
	}
	return result, api.OK
}

// writer writes random texts with few names.
type writer struct{ *random }

func (w writer) name() string { return pick(w.random, "a", "b", "c", "d", "e", "f", "l", "k", "v") }

func (w writer) expr(n int) string {
	if n <= 0 {
		return pick(w.random, w.name(), w.name(), w.name(), "1")
	}
	sub := func() string { return w.expr(n - 1 - w.below(2)) }
	switch w.below(10) {
	case 0:
		return sub() + " & " + sub()
	case 1:
		return "(" + sub() + " | " + sub() + ")"
	case 2, 3:
		return "{" + w.decls(n-1, true) + "}"
	case 4:
		return "[for " + pick(w.random, "k, v", "a, b", "l, c") + " in " + sub() + pick(w.random, "", " if "+w.expr(0)) + ": " + w.expr(0) + "]"
	case 5:
		return "f(" + sub() + ", -" + w.name() + ")." + w.name()
	case 6:
		return "[" + sub() + ", ..." + w.name() + "]"
	case 7:
		return strings.Repeat("-", 1+w.below(10)) + w.name()
	}
	return w.name()
}

func (w writer) decls(n int, scope bool) string {
	var l []string
	for range w.below(4) {
		l = append(l, w.decl(n, scope))
	}
	return strings.Join(l, ", ")
}

func (w writer) decl(n int, scope bool) string {
	e := w.expr(n - 1)
	if strings.Contains(e, "let") { // a struct with a let must stay in conjunct position
		e = w.name()
	}
	switch w.below(10) {
	case 0, 1:
		if scope {
			return "let " + w.name() + " = " + pick(w.random, e, w.name(), "[c]")
		}
	case 2:
		return "if " + w.name() + " {" + w.decls(n-1, false) + "}"
	case 3:
		return "for " + pick(w.random, "k, v", "a, b") + " in " + w.name() + " {" + w.decls(n-1, false) + "}"
	case 4:
		return "(" + w.name() + "): " + e
	case 5:
		return "[=~\"x\"]: " + e
	case 6:
		return w.name()
	case 7:
		return pick(w.random, "\"int\": ", "\"a b\": ") + e
	}
	return pick(w.random, "a", "b", "c", "d", "f") + ": " + e
}

func (w writer) file() string {
	s := ""
	for range w.below(3) {
		s += "import " + pick(w.random, "a", "e", "l", "v") + " \"m/x\"\n"
	}
	return s + w.decls(4, true)
}

// somePackage returns a random package, often with random offsets.
func somePackage(x *random) api.Package {
	p := api.Package{Path: "m/p"}
	for range 1 + x.below(3) {
		f, fault := parser.File(writer{x}.file())
		if fault.Errno == api.OK {
			p.Files = append(p.Files, f)
		}
	}
	if x.below(3) == 0 {
		for i := range p.Files {
			scatter(x, p.Files[i].Decls)
		}
	}
	return p
}

// scatter sets random offsets.
func scatter(x *random, l []api.Decl) {
	var expr func(e *api.Expr)
	expr = func(e *api.Expr) {
		e.Pos = x.below(4) - 1
		for i := range e.Subs {
			expr(&e.Subs[i])
		}
		scatter(x, e.Decls)
	}
	for i := range l {
		l[i].Pos = x.below(4) - 1
		for j := range l[i].Subs {
			expr(&l[i].Subs[j])
		}
		scatter(x, l[i].Body)
	}
}

// equal reports whether two packages are the same, with all offsets.
func equal(a, b api.Package) bool {
	if a.Path != b.Path || len(a.Files) != len(b.Files) {
		return false
	}
	for i := range a.Files {
		x, y := plain(a.Files[i]), plain(b.Files[i])
		if !reflect.DeepEqual(x, y) {
			return false
		}
	}
	return true
}

// plain returns a file in which empty lists are nil.
func plain(f api.File) api.File {
	var decls func(l []api.Decl) []api.Decl
	var exprs func(l []api.Expr) []api.Expr
	decls = func(l []api.Decl) []api.Decl {
		var r []api.Decl
		for _, d := range l {
			d.Subs, d.Body, d.Lead, d.Tail = exprs(d.Subs), decls(d.Body), append([]string(nil), d.Lead...), append([]string(nil), d.Tail...)
			r = append(r, d)
		}
		return r
	}
	exprs = func(l []api.Expr) []api.Expr {
		var r []api.Expr
		for _, e := range l {
			e.Subs, e.Decls, e.Tail = exprs(e.Subs), decls(e.Decls), append([]string(nil), e.Tail...)
			r = append(r, e)
		}
		return r
	}
	f.Imports, f.Tail, f.Decls = append([]api.Import(nil), f.Imports...), append([]string(nil), f.Tail...), decls(f.Decls)
	return f
}

// copyOf returns a copy of a package.
func copyOf(p api.Package) api.Package {
	p.Files = slices.Clone(p.Files)
	for i := range p.Files {
		p.Files[i] = plain(p.Files[i])
	}
	return p
}

// TestExamples checks the examples of the chapter.
func TestExamples(t *testing.T) {
	l, e := scopes.Uses(pack(t, "a: 1, b: {a: 2, c: a}"))
	if want := []scopes.Use{{Pos: 19, Name: "a", Kind: scopes.Field, Depth: 1}}; e != api.OK || !slices.Equal(l, want) {
		t.Errorf("Uses: %v, %d", l, e)
	}
	l, e = scopes.Uses(pack(t, "let l = 1, a: l, b: [for k, v in a: k + x]"))
	want := []scopes.Use{{Pos: 14, Name: "l", Kind: scopes.Let}, {Pos: 33, Name: "a", Kind: scopes.Field}, {Pos: 36, Name: "k", Kind: scopes.Loop}, {Pos: 40, Name: "x"}}
	if e != api.OK || !slices.Equal(l, want) {
		t.Errorf("Uses: %v, %d", l, e)
	}
	if p, e := scopes.Resolve(pack(t, "let a = b, let b = a")); e != api.ErrCycle || !equal(p, api.Package{}) {
		t.Errorf("Resolve: %v, %d", p, e)
	}
}

// TestRandom compares all functions with their definitions for random packages (P28.1, P28.2, P28.3).
func TestRandom(t *testing.T) {
	x := random(28)
	met := map[api.Errno]int{}
	kinds := map[int]int{}
	for range 20000 {
		p := somePackage(&x)
		before := copyOf(p)
		uses, e := scopes.Uses(p)
		undefined, e1 := scopes.Undefined(p)
		unused, e2 := scopes.Unused(p)
		declared, e3 := scopes.Declared(p)
		resolved, e4 := scopes.Resolve(p)
		want := api.OK
		if twice(p) {
			want = api.ErrTwice
		}
		if e != want || e1 != want || e2 != want || e3 != want || want != api.OK && e4 != want {
			t.Fatalf("%v: %d, %d, %d, %d, %d, want %d", p, e, e1, e2, e3, e4, want)
		}
		if !equal(p, before) {
			t.Fatalf("%v is changed", before)
		}
		if want != api.OK {
			if len(uses)+len(undefined)+len(unused)+len(declared)+len(resolved.Files) > 0 || resolved.Path != "" {
				t.Fatalf("%v: results together with an error", p)
			}
			met[want]++
			continue
		}
		wantUses, wantUnused := usesOf(p)
		if !slices.Equal(uses, wantUses) || !slices.Equal(unused, wantUnused) {
			t.Fatalf("%v: %v, %v, want %v, %v", p, uses, unused, wantUses, wantUnused)
		}
		for _, u := range uses {
			kinds[u.Kind]++
			if u.Kind == scopes.Field && u.Depth == 0 && !slices.Contains(declared, u.Name) {
				t.Fatalf("%v: %v is not declared", p, u)
			}
		}
		wantUses = slices.DeleteFunc(wantUses, func(u scopes.Use) bool { return u.Kind != scopes.Unknown })
		if !slices.Equal(undefined, wantUses) {
			t.Fatalf("Undefined(%v): %v, want %v", p, undefined, wantUses)
		}
		checkDeclared(t, p, declared)
		wantResolved, want := resolveOf(p)
		met[want]++
		if e4 != want || !equal(resolved, wantResolved) {
			t.Fatalf("Resolve(%v): %v, %d, want %v, %d", p, resolved, e4, wantResolved, want)
		}
		if e4 == api.OK {
			checkResolved(t, p, resolved)
		}
	}
	for _, e := range []api.Errno{api.OK, api.ErrTwice, api.ErrCycle, api.ErrDepth} {
		if met[e] < 20 {
			t.Errorf("error %d: %d times", e, met[e])
		}
	}
	for k := scopes.Unknown; k <= scopes.Package; k++ {
		if kinds[k] < 500 {
			t.Errorf("kind %d: %d times", k, kinds[k])
		}
	}
}

// checkDeclared checks the names that the package scope declares.
func checkDeclared(t *testing.T, p api.Package, got []string) {
	t.Helper()
	var want []string
	for _, f := range p.Files {
		for _, d := range f.Decls {
			if d.Kind == api.DcLet || d.Kind == api.DcField && quote.Ident(d.Label) {
				want = append(want, d.Label)
			}
		}
	}
	slices.Sort(want)
	if !slices.Equal(got, slices.Compact(want)) {
		t.Fatalf("Declared(%v): %v", p, got)
	}
}

// checkResolved checks that a resolved package is valid and stays the same, and that its uses are the same (P28.2, P28.3).
func checkResolved(t *testing.T, p, resolved api.Package) {
	t.Helper()
	for _, f := range resolved.Files {
		if e := syntax.Check(f); e != api.OK {
			t.Fatalf("%v is not valid: %d", resolved, e)
		}
	}
	before := copyOf(resolved)
	again, e := scopes.Resolve(resolved)
	if e != api.OK || !equal(again, resolved) {
		t.Fatalf("Resolve(%v): %v, %d", resolved, again, e)
	}
	a, _ := scopes.Uses(p)
	b, _ := scopes.Uses(resolved)
	c, _ := scopes.Unused(p)
	d, _ := scopes.Unused(resolved)
	if !slices.Equal(a, b) || !slices.Equal(c, d) {
		t.Fatalf("the uses of %v are %v, those of the resolved package %v", p, a, b)
	}
	// No two parts of a result share memory.
	for i := range again.Files {
		if !destroy(again.Files[i].Decls) {
			t.Fatal("two parts of a result share memory")
		}
	}
	if !equal(resolved, before) {
		t.Fatal("a result shares memory with an argument")
	}
}

// destroy changes each part, and reports whether none has been changed already, because it is a part twice.
func destroy(l []api.Decl) bool {
	once := true
	var expr func(e *api.Expr)
	expr = func(e *api.Expr) {
		once = once && !strings.HasSuffix(e.Text, "!!")
		e.Text += "!!"
		for i := range e.Subs {
			expr(&e.Subs[i])
		}
		once = destroy(e.Decls) && once
	}
	for i := range l {
		once = once && !strings.HasSuffix(l[i].Label, "!!")
		l[i].Label += "!!"
		for j := range l[i].Subs {
			expr(&l[i].Subs[j])
		}
		once = destroy(l[i].Body) && once
	}
	return once
}

// TestOrder checks that the order of declarations and files does not matter (P28.3).
func TestOrder(t *testing.T) {
	x := random(283)
	for range 2000 {
		p := somePackage(&x)
		uses, e := scopes.Uses(p)
		declared, _ := scopes.Declared(p)
		q := copyOf(p)
		numbers := make([]int, len(q.Files))
		for i := range numbers {
			numbers[i] = i
		}
		for i := range q.Files {
			j := x.below(i + 1)
			q.Files[i], q.Files[j] = q.Files[j], q.Files[i]
			numbers[i], numbers[j] = numbers[j], numbers[i]
		}
		for i := range q.Files {
			shuffle(&x, q.Files[i].Decls)
		}
		other, e2 := scopes.Uses(q)
		for i := range other {
			other[i].File = numbers[other[i].File]
		}
		order := func(a, b scopes.Use) int {
			return cmp.Or(a.File-b.File, a.Pos-b.Pos, strings.Compare(a.Name, b.Name), a.Kind-b.Kind, a.Depth-b.Depth)
		}
		slices.SortFunc(uses, order)
		slices.SortFunc(other, order)
		names, _ := scopes.Declared(q)
		if e != e2 || !slices.Equal(uses, other) || !slices.Equal(names, declared) {
			t.Fatalf("%v: %v, %d, in another order %v, %d", p, uses, e, other, e2)
		}
		_, e = scopes.Resolve(p)
		if _, e2 = scopes.Resolve(q); e != e2 {
			t.Fatalf("%v: %d, in another order %d", p, e, e2)
		}
	}
}

// shuffle changes the order of declarations everywhere.
func shuffle(x *random, l []api.Decl) {
	var expr func(e *api.Expr)
	expr = func(e *api.Expr) {
		for i := range e.Subs {
			expr(&e.Subs[i])
		}
		shuffle(x, e.Decls)
	}
	for i := range l {
		j := x.below(i + 1)
		l[i], l[j] = l[j], l[i]
	}
	for i := range l {
		for j := range l[i].Subs {
			expr(&l[i].Subs[j])
		}
		shuffle(x, l[i].Body)
	}
}

// TestErrors checks the errors and their order (P28.1, P28.2).
func TestErrors(t *testing.T) {
	wrong := api.File{Package: "q", Decls: []api.Decl{{}}}
	deep := api.Expr{Kind: api.ExNull}
	for range api.MaxDepth {
		deep = api.Expr{Kind: api.ExUnary, Text: "-", Subs: []api.Expr{deep}}
	}
	deepFile := api.File{Decls: []api.Decl{{Kind: api.DcEmbed, Subs: []api.Expr{deep}}}}
	files := func(l ...api.File) api.Package { return api.Package{Files: l} }
	one := func(s string) api.File { return pack(t, s).Files[0] }
	for i, c := range []struct {
		p    api.Package
		want api.Errno
	}{
		{api.Package{}, api.OK},
		{api.Package{Path: "\n"}, api.OK},
		{files(wrong, deepFile), api.ErrKind},
		{files(deepFile, wrong), api.ErrDepth},
		{files(one("package p\na: 1"), wrong), api.ErrKind},
		{files(one("package p\na: 1"), one("a: 1")), api.ErrName},
		{files(one("package p\nlet a = 1, let a = 1"), one("package q\n")), api.ErrName},
		{files(one("package p\n"), one("package p\n")), api.OK},
		{files(one("let a = 1, let a = 2")), api.ErrTwice},
		{files(one("let a = 1"), one("let a = 2")), api.ErrTwice},
		{files(one("let a = 1"), one("a: 2")), api.ErrTwice},
		{files(one("a?: 1"), one("let a = 2")), api.ErrTwice},
		{files(one("a: 1, a: 2")), api.OK},
		{files(one("let a = 1, b: {a: 2}")), api.OK},
		{files(one("let a = 1, (b): 1, if a {a: 1}, [string]: a")), api.OK},
		{files(one("b: {let a = 1, a: 2}")), api.ErrTwice},
		{files(one("b: {c: {let a = 1, let a = 2}}")), api.ErrTwice},
		{files(one("let b = {let a = 1, let a = 2}")), api.ErrTwice},
		{files(one("[string]: {let a = 1, let a = 2}")), api.ErrTwice},
		{files(one("{let a = 1}, let a = 2")), api.OK},
		{files(one("import a \"x\"\nimport a \"y\"\n")), api.ErrTwice},
		{files(one("import a \"x\"\n"), one("import a \"x\"\n")), api.OK},
		{files(one("import a \"x\"\na: 1, b: a")), api.OK},
		{files(one("import a \"x\"\nlet a = 1")), api.OK},
	} {
		_, e1 := scopes.Uses(c.p)
		_, e2 := scopes.Undefined(c.p)
		_, e3 := scopes.Unused(c.p)
		_, e4 := scopes.Declared(c.p)
		p, e5 := scopes.Resolve(c.p)
		if e1 != c.want || e2 != c.want || e3 != c.want || e4 != c.want || e5 != c.want || e5 != api.OK && !equal(p, api.Package{}) {
			t.Errorf("package %d: %d, %d, %d, %d, %d, want %d", i, e1, e2, e3, e4, e5, c.want)
		}
	}
}

// TestCycles checks lets that refer to themselves, and those that are nested too deeply (P28.2).
func TestCycles(t *testing.T) {
	name := func(i int) string { return "a" + strconv.Itoa(i) }
	star, chain, wide := "let a0 = 1", "let a0 = 1", "let a0 = 1"
	for i := range 3000 {
		star += "\nlet " + name(i+1) + " = a0"
		chain += "\nlet " + name(i+1) + " = " + name(i)
	}
	for i := range 60 {
		wide += ", let " + name(i+1) + " = [" + name(i) + ", " + name(i) + "]"
	}
	for s, want := range map[string]api.Errno{
		"let a = a":                                                   api.ErrCycle,
		"let a = [b], let b = {c: a}":                                 api.ErrCycle,
		"let a = {b: {c: a}}":                                         api.ErrCycle,
		"let a = {let b = a}":                                         api.ErrCycle,
		"let a = {let b = c}, let c = a":                              api.ErrCycle,
		"let a = {let b = 1, c: b}, d: a":                             api.OK,
		"let a = {let a = 1, c: a}, d: a":                             api.OK,
		"let a = {a: a}":                                              api.OK,
		"let a = [for a, v in 1: a]":                                  api.OK,
		"let a = [for k, v in a: k]":                                  api.ErrCycle,
		"a: {let b = 1}, c: {let b = b}":                              api.ErrCycle,
		"let a = b, let b = 1, let c = a, d: c":                       api.OK,
		"let a = " + strings.Repeat("-", 14) + "1":                    api.OK,
		"let a = " + strings.Repeat("-", 14) + "b, let b = 1":         api.ErrDepth,
		"let a = " + strings.Repeat("-", 13) + "b, let b = 1":         api.OK,
		"let a = -----1, b: ---------a":                               api.ErrDepth,
		"let a = -----1, b: --------a":                                api.OK,
		"let a = -----1, let b = ---------a":                          api.ErrDepth,
		"let a = ---------b, let b = ---------b":                      api.ErrCycle,
		"let a = [--------1], if 1 {b: c & [-a]}":                     api.OK,
		"let a = [--------1], if 1 {b: c & [--a]}":                    api.ErrDepth,
		"let a = {b: ---1}, let c = {d: a & -a}, e: {f: {g: {h: c}}}": api.ErrDepth,
		"a: b & {{{{{{{...}}}}}}}":                                    api.OK,
		"let l = {{{{{{{...}}}}}}}, a: [l]":                           api.ErrDepth,
		"let l = {{{{{{{...}}}}}}}, a: l":                             api.OK,
		star:                                                          api.OK,
		chain:                                                         api.ErrDepth,
		wide:                                                          api.ErrDepth,
		strings.ReplaceAll(wide, "let a0 = 1", "let a0 = a60"):        api.ErrCycle,
	} {
		p := pack(t, s)
		got, e := scopes.Resolve(p)
		if e != want {
			t.Errorf("Resolve of %.100q: %d, want %d", s, e, want)
		}
		if len(s) > 1000 {
			continue
		}
		if definition, e := resolveOf(p); e != want || !equal(got, definition) {
			t.Errorf("the definition of Resolve of %.100q: %d, want %d", s, e, want)
		}
	}
}

// TestResolved checks a package that is partly resolved already (P28.1, P28.2): the Subs of references are ignored.
func TestResolved(t *testing.T) {
	p := pack(t, "let l = {let m = 1, n: m}, a: l, b: x")
	p.Files[0].Decls[1].Subs[0] = api.Expr{Kind: api.ExRef, Text: "l", Names: [2]string{"let"}, Num: 7, Pos: 30, Subs: []api.Expr{{Kind: api.ExStruct, Decls: []api.Decl{
		{Kind: api.DcLet, Label: "z", Subs: []api.Expr{{Kind: api.ExRef, Text: "y"}}},
		{Kind: api.DcLet, Label: "z", Subs: []api.Expr{{Kind: api.ExRef, Text: "y"}}},
	}}}}
	p.Files[0].Decls[2].Subs[0].Names[0] = "loop"
	uses, e := scopes.Uses(p)
	want := []scopes.Use{{Pos: 23, Name: "m", Kind: scopes.Let, Depth: 1}, {Pos: 30, Name: "l", Kind: scopes.Let}, {Pos: 36, Name: "x"}}
	if e != api.OK || !slices.Equal(uses, want) {
		t.Errorf("Uses: %v, %d", uses, e)
	}
	if unused, e := scopes.Unused(p); e != api.OK || len(unused) > 0 {
		t.Errorf("Unused: %v, %d", unused, e)
	}
	r, e := scopes.Resolve(p)
	definition, _ := resolveOf(p)
	if e != api.OK || !equal(r, definition) || r.Files[0].Decls[2].Subs[0].Names[0] != "unknown" || len(r.Files[0].Decls[1].Subs[0].Subs[0].Decls) != 2 {
		t.Errorf("Resolve: %v, %d", r, e)
	}
}

// TestUnchanged checks that comments, names of packages and imports are those of the package, in new memory (P28.2).
func TestUnchanged(t *testing.T) {
	const text = "// 1\npackage p\nimport b \"m/b\"\n// 2\na: {\n// 3\nc: 1 // 4\n// 5\n} // 6\nif true {\n// 7\n}\nx: 1 | {\n// 8\n}\n// 9\n"
	p := pack(t, text, "package p\n// 10\n")
	before := copyOf(p)
	r, e := scopes.Resolve(p)
	if e != api.OK || !equal(r, p) {
		t.Fatalf("Resolve: %v, %d", r, e)
	}
	r.Files[0].Imports[0].Name = "?"
	r.Files[1].Tail[0] = "?"
	d := r.Files[0].Decls
	for _, l := range [][]string{r.Files[0].Tail, d[0].Lead, d[0].Subs[0].Tail, d[0].Subs[0].Decls[0].Lead, d[1].Tail, d[2].Subs[0].Subs[1].Tail} {
		l[0] = "?"
	}
	if !equal(p, before) {
		t.Error("the result shares memory with the package")
	}
}

// TestLarge checks many uses and definitions (P28.1, P28.2).
func TestLarge(t *testing.T) {
	s := ""
	for i := range 3000 {
		s += "let l" + strconv.Itoa(i) + " = [a, b]\n"
	}
	p := pack(t, s)
	l, e := scopes.Unused(p)
	uses, _ := scopes.Uses(p)
	r, e2 := scopes.Resolve(p)
	if e != api.OK || e2 != api.OK || len(l) != 3000 || len(uses) != 6000 || len(r.Files[0].Decls) != 3000 {
		t.Errorf("%d unused, %d uses, %d, %d", len(l), len(uses), e, e2)
	}
}
