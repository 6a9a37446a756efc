package rename_test

import (
	"reflect"
	"slices"
	"strings"
	"testing"

	"configlang/api"
	"configlang/parser"
	"configlang/printer"
	"configlang/rename"
	"configlang/scopes"
	"configlang/syntax"
)

// random returns numbers that are the same in each run.
type random uint64

func (x *random) below(n int) int {
	*x = *x*6364136223846793005 + 1442695040888963407
	return int(uint64(*x)>>33) % n
}

// pick returns one of some elements.
func pick[T any](x *random, l ...T) T {
	return l[x.below(len(l))]
}

// pack returns the package with some files; false if one is not accepted.
func pack(texts ...string) (api.Package, bool) {
	p := api.Package{Path: "m/p"}
	for _, s := range texts {
		f, fault := parser.File(s)
		if fault != (api.Fault{}) {
			return api.Package{}, false
		}
		p.Files = append(p.Files, f)
	}
	return p, true
}

// mustPack returns the package with some files.
func mustPack(t *testing.T, texts ...string) api.Package {
	t.Helper()
	p, ok := pack(texts...)
	if !ok {
		t.Fatalf("%q is not accepted", texts)
	}
	return p
}

// change is one of the three functions.
type change func(p api.Package, from, to string) (api.Package, api.Errno)

// importOf returns Import for one file.
func importOf(file int) change {
	return func(p api.Package, from, to string) (api.Package, api.Errno) {
		return rename.Import(p, file, from, to)
	}
}

// TestExamples checks the examples of the chapter and of the document.
func TestExamples(t *testing.T) {
	if p, e := rename.Field(mustPack(t, "a: 1, c: {b: 2, d: a}"), "a", "b"); e != api.ErrShadow || !reflect.DeepEqual(p, api.Package{}) {
		t.Errorf("%v, %d", p, e)
	}
	p, e := rename.Field(mustPack(t, "a: 1 // one"), "a", "b")
	if e != api.OK {
		t.Fatal(e)
	}
	if s, e := printer.File(p.Files[0]); e != api.OK || s != "b: 1 // one\n" {
		t.Errorf("%q, %d", s, e)
	}
}

// TestRenamed checks packages after a change against texts in which it is made by hand (P29.1, P29.2).
func TestRenamed(t *testing.T) {
	for i, c := range []struct {
		change   change
		from, to string
		before   []string
		behind   []string
	}{
		{rename.Field, "a", "z", []string{"a: 1, b: a + a.a"}, []string{"z: 1, b: z + z.a"}},
		{rename.Field, "a", "z", []string{"a: 1, a?: 2, \"a\"!: 3", "x: a, a: 4"}, []string{"z: 1, z?: 2, \"z\"!: 3", "x: z, z: 4"}},
		{rename.Field, "a", "z", []string{"a: 1, b: {a: 2, c: a}, d: {e: a}"}, []string{"z: 1, b: {a: 2, c: a}, d: {e: z}"}},
		{rename.Field, "a", "z", []string{"a: 1, b: {let a = 2, c: a, d: {e: a}}, [=~\"a\"]: a"}, []string{"z: 1, b: {let a = 2, c: a, d: {e: a}}, [=~\"a\"]: z"}},
		{rename.Field, "a", "z", []string{"a: 1, for a, b in a {(a): b}, c: [for b, a in a: a, a]"}, []string{"z: 1, for a, b in z {(a): b}, c: [for b, a in z: a, z]"}},
		{rename.Field, "a", "z", []string{"a: 1, if a {a: a}, b: {a}, c: 1 | {a: 1, d: a}"}, []string{"z: 1, if z {a: z}, b: {z}, c: 1 | {a: 1, d: z}"}},
		{rename.Field, "#a", "_z", []string{"#a: {#a: #a}, b: #a & b.#a"}, []string{"_z: {#a: #a}, b: _z & b.#a"}},
		{rename.Field, "a", "z", []string{"// a\na: \"a\\(a)\" // a\n// a"}, []string{"// a\nz: \"a\\(z)\" // a\n// a"}},
		{rename.Field, "a", "z", []string{"import q \"m/a\"\na: q.a, let b = a, c: b"}, []string{"import q \"m/a\"\nz: q.a, let b = z, c: b"}},
		{rename.Field, "a", "z", []string{"import a \"m/a\"\na: 1, b: a"}, []string{"import a \"m/a\"\nz: 1, b: z"}},
		{rename.Field, "a", "z", []string{"x: {z: 1, y: z}, a: 2, b: {z: 1, c: x}"}, []string{"x: {z: 1, y: z}, z: 2, b: {z: 1, c: x}"}},
		{rename.Let, "a", "z", []string{"let a = 1, b: a, c: {let a = 2, d: a}"}, []string{"let z = 1, b: z, c: {let a = 2, d: a}"}},
		{rename.Let, "a", "z", []string{"b: a.a, c: {a: a}", "let a = {a: a}, d: a"}, []string{"b: z.a, c: {a: a}", "let z = {a: a}, d: z"}},
		{importOf(0), "q", "z", []string{"import q \"m/q\"\na: q.q, b: {q: 1, c: q}", "import q \"m/q\"\nc: q"}, []string{"import z \"m/q\"\na: z.q, b: {q: 1, c: q}", "import q \"m/q\"\nc: q"}},
		{importOf(1), "q", "z", []string{"import q \"m/q\"\na: q.q", "import \"m/r\"\nimport q \"m/q\"\nc: q & r, let s = q, d: s"}, []string{"import q \"m/q\"\na: q.q", "import \"m/r\"\nimport z \"m/q\"\nc: z & r, let s = z, d: s"}},
		{importOf(0), "q", "z", []string{"import q \"m/q\"\nq: 1, b: q"}, []string{"import z \"m/q\"\nq: 1, b: q"}},
	} {
		p, want := mustPack(t, c.before...), mustPack(t, c.behind...)
		got, e := c.change(p, c.from, c.to)
		if e != api.OK || got.Path != p.Path || len(got.Files) != len(want.Files) {
			t.Errorf("case %d: %v, %d", i, got, e)
			continue
		}
		for j := range want.Files {
			if !syntax.Equal(got.Files[j], want.Files[j]) {
				t.Errorf("case %d: %v, want %v", i, got.Files[j], want.Files[j])
			}
		}
		if back, e := c.change(got, c.to, c.from); e != api.OK || !reflect.DeepEqual(back, p) {
			t.Errorf("case %d: back: %v, %d", i, back, e)
		}
	}
}

// TestErrors checks the errors and their order (P29.1).
func TestErrors(t *testing.T) {
	resolved, e := scopes.Resolve(mustPack(t, "a: 1, b: a, let c = a, d: c", "import q \"m/q\"\ne: q"))
	if e != api.OK {
		t.Fatal(e)
	}
	two := mustPack(t, "import q \"m/q\"\nimport r \"m/r\"\na: 1, b: {z: 1, c: a, d: q}, let l = a, f: {y: 1, g: l}, \"x y\": 1, \"let\": 2", "import q \"m/q\"\nh: a, i: q")
	twice := mustPack(t, "let a = 1, a: 2")
	names := mustPack(t, "package p\na: 1", "package q\na: 1")
	invalid := api.Package{Files: []api.File{{Decls: []api.Decl{{Kind: api.DcField}}}}}
	for i, c := range []struct {
		change   change
		p        api.Package
		from, to string
		e        api.Errno
	}{
		{rename.Field, invalid, "?", "?", api.ErrKind},
		{rename.Field, names, "?", "?", api.ErrName},
		{rename.Field, twice, "?", "?", api.ErrTwice},
		{rename.Let, twice, "?", "?", api.ErrTwice},
		{importOf(9), twice, "?", "?", api.ErrTwice},
		{rename.Field, resolved, "?", "?", api.ErrKind},
		{rename.Let, resolved, "?", "?", api.ErrKind},
		{importOf(9), resolved, "?", "?", api.ErrKind},
		{importOf(-1), two, "?", "?", api.ErrRange},
		{importOf(2), two, "?", "?", api.ErrRange},
		{rename.Field, two, "?", "?", api.ErrName},
		{rename.Let, two, "?", "?", api.ErrName},
		{importOf(0), two, "?", "?", api.ErrName},
		{rename.Field, two, "a", "", api.ErrName},
		{rename.Field, two, "a", "let", api.ErrName},
		{rename.Field, two, "a", "_", api.ErrName},
		{rename.Field, two, "a", strings.Repeat("a", 33), api.ErrName},
		{rename.Field, two, "let", "let", api.ErrName},
		{rename.Field, two, "?", "a", api.ErrNone},
		{rename.Field, two, "x y", "xy", api.ErrNone},
		{rename.Field, two, "let", "b", api.ErrNone},
		{rename.Field, two, "l", "a", api.ErrNone},
		{rename.Field, two, "q", "a", api.ErrNone},
		{rename.Field, two, "z", "z", api.ErrNone},
		{rename.Let, two, "a", "l", api.ErrNone},
		{rename.Let, two, "q", "a", api.ErrNone},
		{importOf(0), two, "a", "q", api.ErrNone},
		{importOf(1), two, "r", "q", api.ErrNone},
		{rename.Field, two, "a", "b", api.ErrTwice},
		{rename.Field, two, "a", "l", api.ErrTwice},
		{rename.Field, two, "a", "h", api.ErrTwice},
		{rename.Let, two, "l", "a", api.ErrTwice},
		{importOf(0), two, "q", "r", api.ErrTwice},
		{importOf(0), two, "r", "q", api.ErrTwice},
		{rename.Field, two, "a", "z", api.ErrShadow}, // c would be the z of b
		{rename.Field, two, "i", "q", api.ErrShadow}, // i: q would not be the import
		{rename.Let, two, "l", "y", api.ErrShadow},   // g would be the y of f
		{importOf(0), two, "q", "z", api.ErrShadow},  // d would be the z of b
		{importOf(1), two, "q", "a", api.ErrShadow},  // i would be the field a
		{rename.Field, two, "a", "a", api.OK},
		{rename.Field, two, "a", "r", api.OK}, // the import r is not used
		{rename.Field, two, "a", "x", api.OK},
		{rename.Let, two, "l", "z", api.OK},
		{importOf(0), two, "q", "l1", api.OK},
		{importOf(1), two, "q", "r", api.OK},
		{importOf(0), two, "r", "a", api.OK},
	} {
		p, e := c.change(c.p, c.from, c.to)
		if e != c.e || e != api.OK && !reflect.DeepEqual(p, api.Package{}) {
			t.Errorf("case %d: %v, %d, want %d", i, p, e, c.e)
		}
		if e == api.OK && c.from == c.to && !reflect.DeepEqual(p, c.p) {
			t.Errorf("case %d: %v is not the package", i, p)
		}
	}
}

// TestUnknown checks that a name that is bound newly is not permitted to capture a use that was unknown (P29.1).
func TestUnknown(t *testing.T) {
	p := mustPack(t, "a: 1, b: z, let l = 1")
	for _, f := range []change{rename.Field, rename.Let} {
		for _, from := range []string{"a", "l"} {
			if _, e := f(p, from, "z"); e == api.OK {
				t.Errorf("%s became z", from)
			}
		}
	}
	q := mustPack(t, "import q \"m/q\"\nb: z")
	if _, e := rename.Import(q, 0, "q", "z"); e != api.ErrShadow {
		t.Errorf("Import: %d", e)
	}
}

// TestStripped checks that uses at equal positions are told apart by the order of the tree (P29.1).
func TestStripped(t *testing.T) {
	p := mustPack(t, "a: [a, b, {c: a}], b: {a: 1, d: a & b, e: {f: a}}, if a {g: a}, h: a", "i: b + a")
	want := mustPack(t, "z: [z, b, {c: z}], b: {a: 1, d: a & b, e: {f: a}}, if z {g: z}, h: z", "i: b + z")
	for i := range p.Files {
		p.Files[i], want.Files[i] = syntax.Strip(p.Files[i]), syntax.Strip(want.Files[i])
	}
	if got, e := rename.Field(p, "a", "z"); e != api.OK || !reflect.DeepEqual(got, want) {
		t.Errorf("%v, %d", got, e)
	}
	// With other positions, too.
	p.Files[0].Decls[0].Subs[0].Subs[0].Pos = 9
	want.Files[0].Decls[0].Subs[0].Subs[0].Pos = 9
	p.Files[0].Decls[3].Subs[0].Pos = -4
	want.Files[0].Decls[3].Subs[0].Pos = -4
	if got, e := rename.Field(p, "a", "z"); e != api.OK || !reflect.DeepEqual(got, want) {
		t.Errorf("%v, %d", got, e)
	}
}

// source writes random texts with few names.
type source struct {
	*random
}

func (s source) name() string {
	return pick(s.random, "a", "b", "c", "d")
}

func (s source) file() string {
	text := ""
	for _, name := range []string{"a", "b", "e"} {
		if s.below(4) == 0 {
			text += "import " + name + " \"m/" + name + "\"\n"
		}
	}
	return text + s.decls(3)
}

func (s source) decls(depth int) string {
	var l []string
	for range 1 + s.below(3) {
		l = append(l, s.decl(depth))
	}
	return strings.Join(l, ", ")
}

func (s source) decl(depth int) string {
	switch s.below(9) {
	case 0:
		return "let " + s.name() + " = " + s.expr(depth)
	case 1:
		return "\"" + s.name() + "\"?: " + s.expr(depth)
	case 2:
		return "for " + pick(s.random, "a, b", "c, d", "b, c") + " in " + s.expr(depth) + " {" + s.decls(depth-1) + "}"
	case 3:
		return "if " + s.expr(depth) + " {" + s.decls(depth-1) + "}"
	case 4:
		return pick(s.random, "[=~\"a\"]: ", "", "(a): ") + s.expr(depth)
	}
	return s.name() + ": " + s.expr(depth)
}

func (s source) expr(depth int) string {
	if depth <= 0 {
		return s.name()
	}
	switch s.below(8) {
	case 0:
		return "{" + s.decls(depth-1) + "}"
	case 1:
		return "{" + s.decls(depth-1) + "} & " + s.expr(depth-1)
	case 2:
		return "[" + s.expr(depth-1) + ", for " + pick(s.random, "a, b", "c, d") + " in " + s.expr(depth-1) + ": " + s.expr(depth-1) + "]"
	case 3:
		return s.name() + "." + s.name()
	case 4:
		return "\"x\\(" + s.name() + ")\""
	case 5:
		return s.name() + "(" + s.expr(depth-1) + ")"
	}
	return s.name()
}

// byText makes a change of a declaration in the texts themselves, for names of one byte; "" and false if it changes what a use refers to.
func byText(t *testing.T, texts []string, kind int, from, to string) ([]string, bool) {
	t.Helper()
	p := mustPack(t, texts...)
	uses, e := scopes.Uses(p)
	if e != api.OK {
		t.Fatal(e)
	}
	var bytes [][]byte
	for _, s := range texts {
		bytes = append(bytes, []byte(s))
	}
	for i, f := range p.Files {
		for _, d := range f.Decls {
			at := d.Pos
			switch {
			case d.Kind != kind || d.Label != from:
				continue
			case kind == api.DcLet:
				at += len("let ")
			case bytes[i][at] == '"':
				at++
			}
			bytes[i][at] = to[0]
		}
	}
	want := slices.Clone(uses)
	for i, u := range uses {
		if u.Depth == 0 && u.Name == from && (u.Kind == scopes.Field && kind == api.DcField || u.Kind == scopes.Let && kind == api.DcLet) {
			bytes[u.File][u.Pos] = to[0]
			want[i].Name = to
		}
	}
	var changed []string
	for _, b := range bytes {
		changed = append(changed, string(b))
	}
	got, e := scopes.Uses(mustPack(t, changed...))
	return changed, e == api.OK && slices.Equal(got, want)
}

// TestRandom compares changes of random packages with those of their texts, and undoes them (P29.1, P29.2).
func TestRandom(t *testing.T) {
	x := random(29)
	s := source{&x}
	counts := map[api.Errno]int{}
	for counts[api.OK] < 1500 {
		texts := []string{s.file(), s.file()}
		p, ok := pack(texts...)
		if !ok {
			continue
		}
		if _, e := scopes.Uses(p); e != api.OK {
			continue
		}
		kind, f := api.DcField, change(rename.Field)
		if x.below(4) == 0 {
			kind, f = api.DcLet, rename.Let
		}
		from, to := s.name(), pick(&x, "a", "b", "c", "d", "e", "z", "z")
		before, _ := pack(texts...)
		got, e := f(p, from, to)
		counts[e]++
		if !reflect.DeepEqual(p, before) {
			t.Fatalf("%q is changed", texts)
		}
		declared, _ := scopes.Declared(p)
		switch e {
		case api.ErrNone, api.ErrTwice:
			if e == api.ErrTwice && (from == to || !slices.Contains(declared, to)) {
				t.Fatalf("%q: %s, %s: %d", texts, from, to, e)
			}
			continue
		}
		changed, same := byText(t, texts, kind, from, to)
		if same != (e == api.OK) || !same && e != api.ErrShadow {
			t.Fatalf("%q: %s, %s: %d, %v", texts, from, to, e, same)
		}
		if !same {
			continue
		}
		if want, _ := pack(changed...); !reflect.DeepEqual(got, want) {
			t.Fatalf("%q: %s, %s: %v, want %v", texts, from, to, got, want)
		}
		if back, e := f(got, to, from); e != api.OK || !reflect.DeepEqual(back, p) {
			t.Fatalf("%q: %s, %s, and back: %v, %d", texts, from, to, back, e)
		}
	}
	if counts[api.ErrShadow] < 100 || counts[api.ErrTwice] < 100 || counts[api.ErrNone] < 100 {
		t.Errorf("counts: %v", counts)
	}
}

// TestMemory checks that a result shares no memory with the package.
func TestMemory(t *testing.T) {
	texts := []string{"import q \"m/q\"\n// c\na: {\n// d\nb: [a, {e: q}]\n// f\n}\nif a {\n// g\n}\n// h\n"}
	p := mustPack(t, texts...)
	for _, to := range []string{"a", "z"} {
		got, e := rename.Field(p, "a", to)
		if e != api.OK {
			t.Fatal(e)
		}
		overwrite(reflect.ValueOf(&got).Elem())
		if !reflect.DeepEqual(p, mustPack(t, texts...)) {
			t.Fatal("the package is changed")
		}
	}
}

// overwrite changes all numbers and strings that a value refers to.
func overwrite(v reflect.Value) {
	switch v.Kind() {
	case reflect.Struct:
		for i := range v.NumField() {
			overwrite(v.Field(i))
		}
	case reflect.Slice, reflect.Array:
		for i := range v.Len() {
			overwrite(v.Index(i))
		}
	case reflect.String:
		v.SetString("!")
	case reflect.Int, reflect.Int64:
		v.SetInt(-77)
	}
}
