package syntax_test

import (
	"reflect"
	"slices"
	"strings"
	"testing"

	"configlang/api"
	"configlang/syntax"
)

// change returns a copy of v in which f has changed each field with one of the names, wherever it is.
func change(v reflect.Value, f func(reflect.Value), names ...string) reflect.Value {
	c := reflect.New(v.Type()).Elem()
	c.Set(v)
	switch v.Kind() {
	case reflect.Slice:
		if v.IsNil() {
			return c
		}
		c.Set(reflect.MakeSlice(v.Type(), v.Len(), v.Len()))
		for i := range v.Len() {
			c.Index(i).Set(change(v.Index(i), f, names...))
		}
	case reflect.Struct:
		for i := range v.NumField() {
			c.Field(i).Set(change(v.Field(i), f, names...))
			if slices.Contains(names, v.Type().Field(i).Name) {
				f(c.Field(i))
			}
		}
	}
	return c
}

// zero returns a copy of x without the fields with the names; its empty lists are nil.
func zero[T any](x T, names ...string) T {
	zeroed := change(reflect.ValueOf(x), func(v reflect.Value) { v.SetZero() }, names...)
	empty := func(v reflect.Value) {
		if v.Kind() == reflect.Slice && v.Len() == 0 {
			v.SetZero()
		}
	}
	return change(zeroed, empty, "Subs", "Decls", "Body", "Tail", "Lead", "Imports").Interface().(T)
}

// comments are the names of the fields with comments.
var comments = []string{"Lead", "Trail", "Tail"}

// strange returns a tree that is not valid: with all fields set in each part.
func strange(x *random, levels int) api.Expr {
	e := api.Expr{Kind: x.below(25) - 1, Text: x.pick("", "a", "b", "k", "v"), Num: int64(x.below(3)), Names: [2]string{x.pick("", "k", "let", "field"), x.pick("", "v", "a")}, Tail: someComments(x), Pos: x.below(5)}
	if x.below(2) == 0 {
		e.Kind = []int{api.ExRef, api.ExEach}[x.below(2)]
	}
	if levels > 1 {
		for range x.below(4) {
			e.Subs = append(e.Subs, strange(x, levels-1))
		}
		for range x.below(2) {
			e.Decls = append(e.Decls, strangeDecl(x, levels-1))
		}
	}
	return e
}

// strangeDecl returns a declaration that is not valid.
func strangeDecl(x *random, levels int) api.Decl {
	d := api.Decl{Kind: x.below(10) - 1, Presence: x.below(5), Label: x.pick("", "a", "b"), Names: [2]string{x.pick("", "k"), x.pick("a", "v")}, Tail: someComments(x), Lead: someComments(x), Trail: x.pick("", "t"), Pos: x.below(3)}
	if x.below(3) == 0 {
		d.Kind = api.DcFor
	}
	if levels > 1 {
		for range x.below(3) {
			d.Subs = append(d.Subs, strange(x, levels-1))
			d.Body = append(d.Body, strangeDecl(x, levels-1))
		}
	}
	return d
}

// someTree returns a file, valid or not.
func someTree(x *random) api.File {
	f := someFile(x)
	if x.below(2) == 0 {
		f.Decls = append(f.Decls, strangeDecl(x, 4))
	}
	return f
}

// TestStrip checks Strip and Plain of files and StripExpr of expressions (P25.2, P25.4).
func TestStrip(t *testing.T) {
	x := random(26)
	for range 1000 {
		f := someTree(&x)
		before := zero(f)
		stripped, plain := syntax.Strip(f), syntax.Plain(f)
		if !reflect.DeepEqual(zero(stripped), zero(f, "Pos")) {
			t.Fatalf("Strip(%+v): %+v", f, stripped)
		}
		if !reflect.DeepEqual(zero(plain), zero(f, comments...)) {
			t.Fatalf("Plain(%+v): %+v", f, plain)
		}
		if l := syntax.Comments(plain); len(l) != 0 {
			t.Fatalf("comments of Plain: %q", l)
		}
		both := syntax.Plain(stripped)
		if !reflect.DeepEqual(zero(both), zero(syntax.Strip(plain))) || !reflect.DeepEqual(zero(syntax.Strip(stripped)), zero(stripped)) || !reflect.DeepEqual(zero(syntax.Plain(plain)), zero(plain)) {
			t.Fatalf("Strip and Plain of %+v", f)
		}
		if syntax.Check(f) == api.OK && (syntax.Check(stripped) != api.OK || syntax.Check(plain) != api.OK) {
			t.Fatalf("Strip or Plain of %+v is not valid", f)
		}
		if !syntax.Equal(f, stripped) || syntax.Check(f) != syntax.Check(stripped) {
			t.Fatalf("Strip changes %+v", f)
		}
		e := strange(&x, 4)
		if !reflect.DeepEqual(zero(syntax.StripExpr(e)), zero(e, "Pos")) || !syntax.EqualExpr(e, syntax.StripExpr(e)) {
			t.Fatalf("StripExpr(%+v)", e)
		}
		scribble(reflect.ValueOf(&stripped).Elem())
		scribble(reflect.ValueOf(&plain).Elem())
		if !reflect.DeepEqual(zero(f), before) {
			t.Fatal("a result shares memory with the argument")
		}
	}
}

// scribble changes all texts and numbers of a tree.
func scribble(v reflect.Value) {
	switch v.Kind() {
	case reflect.Slice, reflect.Array:
		for i := range v.Len() {
			scribble(v.Index(i))
		}
	case reflect.Struct:
		for i := range v.NumField() {
			scribble(v.Field(i))
		}
	case reflect.String:
		v.SetString(v.String() + "!")
	default:
		v.SetInt(v.Int() + 1)
	}
}

// TestEqual checks Equal and EqualExpr, by changing one field after the other (P25.2, P25.4).
func TestEqual(t *testing.T) {
	x := random(27)
	var last api.File
	for range 300 {
		f := someTree(&x)
		f.Imports = append(f.Imports, api.Import{Name: "z", Path: "y", Pos: 4})
		moved := change(reflect.ValueOf(f), func(v reflect.Value) { v.SetInt(v.Int() + 5) }, "Pos").Interface().(api.File)
		if !syntax.Equal(f, f) || !syntax.Equal(f, moved) || !syntax.Equal(moved, f) || syntax.Check(f) != syntax.Check(moved) {
			t.Fatalf("%+v is not equal to itself", f)
		}
		if syntax.Equal(f, last) != reflect.DeepEqual(zero(f, "Pos"), zero(last, "Pos")) || syntax.Equal(f, last) != syntax.Equal(last, f) {
			t.Fatalf("Equal(%+v, %+v)", f, last)
		}
		last = f
		n := 0
		count := func(reflect.Value) { n++ }
		names := []string{"Kind", "Text", "Num", "Names", "Subs", "Decls", "Tail", "Presence", "Label", "Body", "Lead", "Trail", "Name", "Path", "Package", "Imports"}
		change(reflect.ValueOf(f), count, names...)
		for i := range n {
			n = 0
			one := func(v reflect.Value) {
				if n == i {
					differ(v)
				}
				n++
			}
			g := change(reflect.ValueOf(f), one, names...).Interface().(api.File)
			if syntax.Equal(f, g) || syntax.Equal(g, f) {
				t.Fatalf("%+v and %+v are equal", f, g)
			}
		}
	}
	empty := api.Expr{Kind: api.ExList, Subs: []api.Expr{}, Decls: []api.Decl{{Lead: []string{}, Tail: []string{}, Subs: []api.Expr{}, Body: []api.Decl{}}}, Tail: []string{}}
	if !syntax.EqualExpr(empty, api.Expr{Kind: api.ExList, Decls: []api.Decl{{}}}) || !syntax.Equal(api.File{Imports: []api.Import{}, Decls: []api.Decl{}, Tail: []string{}}, api.File{}) {
		t.Error("nil and empty lists differ")
	}
	deep := unary(top(), 60000)
	if !syntax.EqualExpr(deep, syntax.StripExpr(deep)) || syntax.EqualExpr(deep, unary(number(1), 60000)) || syntax.Size(deep) != 60001 || len(syntax.Refs(deep)) != 0 {
		t.Error("a deep tree")
	}
}

// differ changes v.
func differ(v reflect.Value) {
	switch v.Kind() {
	case reflect.Slice:
		v.Set(reflect.Append(v, reflect.Zero(v.Type().Elem())))
	case reflect.Array:
		v.Index(1).SetString(v.Index(1).String() + "x")
	case reflect.String:
		v.SetString(v.String() + "x")
	default:
		v.SetInt(v.Int() + 1)
	}
}

// occurrence is a reference with the names that are bound where it occurs, apart from what encloses a let; own tells whether its own name counts.
type occurrence struct {
	name  string
	bound []string
}

// occurrences returns the references of a tree in their order, by the definition: each with a list of the names that its ancestors bind.
func occurrences(e api.Expr, bound []string) []occurrence {
	var l []occurrence
	inner := bound
	if e.Kind == api.ExRef {
		if e.Names[0] == "let" {
			inner = nil
		} else {
			l = append(l, occurrence{e.Text, bound})
		}
	}
	for i, sub := range e.Subs {
		b := inner
		if e.Kind == api.ExEach && i > 0 {
			b = append(slices.Clone(inner), e.Names[0], e.Names[1])
		}
		l = append(l, occurrences(sub, b)...)
	}
	for _, d := range e.Decls {
		l = append(l, declOccurrences(d, inner)...)
	}
	return l
}

func declOccurrences(d api.Decl, bound []string) []occurrence {
	var l []occurrence
	for _, sub := range d.Subs {
		l = append(l, occurrences(sub, bound)...)
	}
	if d.Kind == api.DcFor {
		bound = append(slices.Clone(bound), d.Names[0], d.Names[1])
	}
	for _, b := range d.Body {
		l = append(l, declOccurrences(b, bound)...)
	}
	return l
}

// TestRefs compares Refs with the definition, and checks a few cases (P25.3).
func TestRefs(t *testing.T) {
	x := random(28)
	for i := range 4000 {
		e := someExpr(&x, 6, true)
		if i%2 == 0 {
			e = strange(&x, 4)
		}
		var want []string
		for _, o := range occurrences(e, nil) {
			if !slices.Contains(o.bound, o.name) && !slices.Contains(want, o.name) {
				want = append(want, o.name)
			}
		}
		if l := syntax.Refs(e); !slices.Equal(l, want) {
			t.Fatalf("Refs(%+v): %q, want %q", e, l, want)
		}
	}
	a, k, v := ref("a"), ref("k"), ref("v")
	loop := body(api.DcFor, of(api.ExList, k, a), field("x", of(api.ExList, k, ref("b"), v)))
	for i, c := range []struct {
		e    api.Expr
		want string
	}{
		{a, "a"}, {let("a", ref("b")), "b"}, {of(api.ExList, a, let("b", of(api.ExList, ref("c"), a)), ref("b")), "a c b"}, {resolved("field", 0), "a"}, {resolved("loop", 0), "a"}, {with(api.ExCall, "f", a), "a"}, {with(api.ExSelect, "b", a), "a"},
		{value(loop, field("v", v)), "k a b v"}, {of(api.ExList, each("k", "v", k, v, k)), "k"}, {of(api.ExList, each("k", "a", v, let("k", of(api.ExList, k, a)), a)), "v k a"}, {of(api.ExList, each("k", "v", a, of(api.ExList, each("x", "y", k, ref("x"), a, ref("b"))), ref("x"))), "a b x"},
		{let("a", of(api.ExList, each("k", "v", k, k), v)), "k v"}, {braces(body(api.DcIf, a, field("b", k))), "a k"}, {braces(decl(api.DcDynamic, v, a), named(api.DcLet, "c", ref("c"))), "v a c"}, {of(api.ExInterp, with(api.ExString, "x"), a), "a"}, {top(), ""},
		{api.Expr{Kind: api.ExRef, Text: "a", Subs: []api.Expr{ref("b")}, Decls: []api.Decl{field("x", ref("c"))}}, "a b c"}, {api.Expr{Kind: api.ExList, Decls: []api.Decl{field("x", ref("c"))}, Subs: []api.Expr{ref("b")}}, "b c"}, {api.Expr{Kind: api.ExEach, Names: [2]string{"a", "b"}, Decls: []api.Decl{field("x", ref("a"))}}, "a"},
	} {
		if l := syntax.Refs(c.e); strings.Join(l, " ") != c.want {
			t.Errorf("case %d: %q, want %q", i, l, c.want)
		}
	}
	deep := a
	for range 30000 {
		deep = of(api.ExList, each("k", "v", top(), deep))
	}
	if l := syntax.Refs(deep); !slices.Equal(l, []string{"a"}) {
		t.Errorf("many loops: %q", l)
	}
}

// TestSize compares Size with the number of all parts (P25.3).
func TestSize(t *testing.T) {
	x := random(29)
	for range 500 {
		e := strange(&x, 5)
		exprs, decls := parts([]api.Decl{{Subs: []api.Expr{e}}})
		if n := syntax.Size(e); n != len(exprs)+len(decls)-1 {
			t.Fatalf("Size(%+v): %d", e, n)
		}
	}
	if n := syntax.Size(braces(body(api.DcFor, top(), field("a", top()), decl(api.DcOpen)), decl(api.DcDynamic, top(), top()))); n != 9 {
		t.Errorf("Size: %d", n)
	}
}

// TestComments checks the order of the comments (P25.3).
func TestComments(t *testing.T) {
	comment := func(d api.Decl, s string) api.Decl {
		d.Lead, d.Trail = []string{s + "1", s + "2"}, s+"9"
		return d
	}
	tailed := func(e api.Expr, s string) api.Expr {
		e.Tail = []string{s + "7", s + "8"}
		return e
	}
	inner := comment(field("x", tailed(braces(comment(decl(api.DcOpen), "c")), "b")), "b")
	outer := comment(body(api.DcIf, of(api.ExList, tailed(value(), "p"), tailed(value(), "q")), inner, comment(decl(api.DcEmbed, top()), "d")), "a")
	outer.Tail = []string{"a7", ""}
	f := file(outer, field("y", tailed(of(api.ExRef), "r")), comment(decl(api.DcOpen), "e"))
	f.Tail = []string{"f7", "f8"}
	want := "a1 a2 p7 p8 q7 q8 b1 b2 c1 c2 c9 b7 b8 b9 d1 d2 d9 a7  a9 r7 r8 e1 e2 e9 f7 f8"
	if l := syntax.Comments(f); strings.Join(l, " ") != want {
		t.Errorf("Comments: %q, want %q", strings.Join(l, " "), want)
	}
	if l := syntax.Comments(api.File{Decls: []api.Decl{{Lead: []string{"", ""}, Tail: []string{""}}}, Tail: []string{""}}); len(l) != 4 {
		t.Errorf("empty comments: %q", l)
	}
	both := api.Expr{Subs: []api.Expr{tailed(top(), "s")}, Decls: []api.Decl{comment(decl(api.DcOpen), "d")}, Tail: []string{"t"}}
	if l := syntax.Comments(file(decl(0, both))); strings.Join(l, " ") != "s7 s8 d1 d2 d9 t" {
		t.Errorf("Subs and Decls: %q", l)
	}
}
