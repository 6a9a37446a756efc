package syntax_test

import (
	"reflect"
	"slices"
	"strings"
	"testing"

	"configlang/api"
	"configlang/syntax"
)

// random returns numbers that are the same in each run.
type random uint64

func (x *random) below(n int) int {
	*x = *x*6364136223846793005 + 1442695040888963407
	return int(uint64(*x)>>33) % n
}

// pick returns one of some strings.
func (x *random) pick(l ...string) string { return l[x.below(len(l))] }

// Expressions of some kinds.
func ref(s string) api.Expr               { return api.Expr{Kind: api.ExRef, Text: s} }
func number(u int64) api.Expr             { return api.Expr{Kind: api.ExNumber, Num: u} }
func top() api.Expr                       { return api.Expr{Kind: api.ExTop} }
func of(kind int, l ...api.Expr) api.Expr { return api.Expr{Kind: kind, Subs: l} }
func with(kind int, s string, l ...api.Expr) api.Expr {
	return api.Expr{Kind: kind, Text: s, Subs: l}
}
func each(k, v string, l ...api.Expr) api.Expr {
	return api.Expr{Kind: api.ExEach, Names: [2]string{k, v}, Subs: l}
}
func let(s string, e api.Expr) api.Expr {
	return api.Expr{Kind: api.ExRef, Text: s, Names: [2]string{"let"}, Subs: []api.Expr{e}}
}
func resolved(kind string, n int64) api.Expr {
	return api.Expr{Kind: api.ExRef, Text: "a", Names: [2]string{kind}, Num: n}
}
func braces(l ...api.Decl) api.Expr { return api.Expr{Kind: api.ExStruct, Decls: l} }
func value(l ...api.Decl) api.Expr  { return api.Expr{Kind: api.ExValue, Decls: l} }

// Declarations of some kinds.
func field(label string, e api.Expr) api.Decl {
	return api.Decl{Kind: api.DcField, Label: label, Presence: api.Present, Subs: []api.Expr{e}}
}
func decl(kind int, l ...api.Expr) api.Decl { return api.Decl{Kind: kind, Subs: l} }
func named(kind int, label string, e api.Expr) api.Decl {
	return api.Decl{Kind: kind, Label: label, Subs: []api.Expr{e}}
}
func body(kind int, e api.Expr, l ...api.Decl) api.Decl {
	d := api.Decl{Kind: kind, Subs: []api.Expr{e}, Body: l}
	if kind == api.DcFor {
		d.Names = [2]string{"k", "v"}
	}
	return d
}

// file returns a file of declarations.
func file(l ...api.Decl) api.File { return api.File{Decls: l} }

// unary returns e inside n further levels, none of which is in conjunct position.
func unary(e api.Expr, n int) api.Expr {
	for range n {
		e = with(api.ExUnary, "-", e)
	}
	return e
}

// someExpr returns a valid expression of at most the given number of levels; conjunct tells whether it is in conjunct position.
func someExpr(x *random, levels int, conjunct bool) api.Expr {
	e := api.Expr{Pos: x.below(100) - 3}
	kinds := []int{api.ExNull, api.ExBool, api.ExNumber, api.ExString, api.ExTop, api.ExBottom, api.ExType, api.ExRef, api.ExList, api.ExCall, api.ExStruct}
	if levels > 1 {
		kinds = append(kinds, api.ExInterp, api.ExBound, api.ExSelect, api.ExIndex, api.ExStruct, api.ExList, api.ExAnd, api.ExAnd, api.ExOr, api.ExUnary, api.ExBinary, api.ExCall, api.ExRef)
	}
	e.Kind = kinds[x.below(len(kinds))]
	subs := func(n int) {
		for range n {
			e.Subs = append(e.Subs, someExpr(x, levels-1, e.Kind == api.ExAnd && conjunct))
		}
	}
	switch e.Kind {
	case api.ExBool:
		e.Num = int64(x.below(2))
	case api.ExNumber:
		e.Num = []int64{0, 1, 10000, api.MaxUnits}[x.below(4)]
	case api.ExString:
		e.Text = x.pick("", "a b", "\n\xff")
	case api.ExType:
		e.Text = x.pick("null", "bool", "int", "number", "string")
	case api.ExRef:
		e.Text = x.pick("a", "k", "v", "_b", "#c")
		if x.below(3) == 0 {
			e.Names[0], e.Num = x.pick("field", "loop", "package", "unknown"), int64(x.below(3))
		}
		if levels > 1 && x.below(3) == 0 {
			e.Names[0], e.Subs = "let", []api.Expr{someExpr(x, levels-1, true)}
		}
	case api.ExBound:
		e.Text = x.pick("<", "<=", ">", ">=", "!=", "=~", "!~")
		subs(1)
	case api.ExUnary:
		e.Text = x.pick("-", "!")
		subs(1)
	case api.ExBinary:
		e.Text = x.pick("+", "-", "*", "/", "%", "==", "!=", "<", "<=", ">", ">=", "&&", "||")
		subs(2)
	case api.ExSelect:
		e.Text = x.pick("a", "", "b c\n")
		subs(1)
	case api.ExIndex, api.ExAnd:
		subs(2)
	case api.ExInterp:
		subs(1 + x.below(3))
	case api.ExCall:
		e.Text = x.pick("len", "f")
		subs(x.below(3) * min(levels-1, 1))
	case api.ExOr, api.ExList:
		someList(x, levels, &e)
	case api.ExStruct:
		if !conjunct {
			e.Kind = api.ExValue
		}
		e.Decls = someDecls(x, levels-1, conjunct)
		e.Tail = someComments(x)
	}
	return e
}

// someList gives alternatives or items to e.
func someList(x *random, levels int, e *api.Expr) {
	n := x.below(4) * min(levels-1, 1)
	if e.Kind == api.ExOr {
		n = 2 + x.below(2)
	}
	for range n {
		sub := someExpr(x, levels-1, false)
		switch {
		case levels <= 2:
		case e.Kind == api.ExOr && x.below(3) == 0:
			sub = of(api.ExMark, someExpr(x, levels-2, false))
		case e.Kind == api.ExList && x.below(3) == 0:
			sub = each("k", "v", someExpr(x, levels-2, false), someExpr(x, levels-2, false))
			if x.below(2) == 0 {
				sub.Subs = append(sub.Subs, someExpr(x, levels-2, false))
			}
		}
		e.Subs = append(e.Subs, sub)
	}
	if e.Kind == api.ExList && n > 0 && e.Subs[n-1].Kind != api.ExEach {
		e.Num = int64(x.below(2))
	}
}

// someComments returns a few comments.
func someComments(x *random) []string {
	return [][]string{nil, nil, {" x"}, {"", "// y\r"}}[x.below(4)]
}

// someDecls returns valid declarations of at most the given number of levels; scope tells whether they stand directly in a file or in an ExStruct.
func someDecls(x *random, levels int, scope bool) []api.Decl {
	var l []api.Decl
	if levels < 1 {
		return nil
	}
	for range x.below(3) {
		d := api.Decl{Pos: x.below(50), Lead: someComments(x), Trail: x.pick("", "", " t")}
		kinds := []int{api.DcIf, api.DcFor, api.DcDynamic, api.DcField, api.DcPattern, api.DcEmbed, api.DcLet, api.DcOpen}
		if !scope {
			kinds = kinds[:6]
		}
		d.Kind = kinds[x.below(len(kinds))]
		if levels == 1 {
			if !scope {
				break
			}
			d.Kind = api.DcOpen
		}
		switch d.Kind {
		case api.DcField:
			d.Label, d.Presence = x.pick("", "a", "x y\n"), 1+x.below(3)
		case api.DcPattern:
			d.Label = x.pick("a*", "[]", "\\n")
		case api.DcLet:
			d.Label = x.pick("a", "_b")
		case api.DcFor, api.DcIf:
			d.Body, d.Tail = someDecls(x, levels-1, false), someComments(x)
			if d.Kind == api.DcFor {
				d.Names = [2]string{"k", "v"}
			}
		}
		n := 1
		switch d.Kind {
		case api.DcDynamic:
			n = 2
		case api.DcOpen:
			n = 0
		}
		inConjunct := scope && d.Kind != api.DcIf && d.Kind != api.DcFor && d.Kind != api.DcDynamic
		for range n {
			d.Subs = append(d.Subs, someExpr(x, levels-1, inConjunct))
		}
		l = append(l, d)
	}
	return l
}

// someFile returns a valid file.
func someFile(x *random) api.File {
	f := api.File{Package: x.pick("", "p"), Decls: someDecls(x, 1+x.below(8), true), Tail: someComments(x)}
	for range x.below(3) {
		f.Imports = append(f.Imports, api.Import{Name: x.pick("a", "b"), Path: x.pick("", "x/a", "\n"), Pos: x.below(9)})
	}
	return f
}

// parts returns pointers to all parts of a list of declarations.
func parts(l []api.Decl) (exprs []*api.Expr, decls []*api.Decl) {
	var expr func(e *api.Expr)
	var walk func(l []api.Decl)
	expr = func(e *api.Expr) {
		exprs = append(exprs, e)
		for i := range e.Subs {
			expr(&e.Subs[i])
		}
		walk(e.Decls)
	}
	walk = func(l []api.Decl) {
		for i := range l {
			decls = append(decls, &l[i])
			for j := range l[i].Subs {
				expr(&l[i].Subs[j])
			}
			walk(l[i].Body)
		}
	}
	walk(l)
	return exprs, decls
}

// TestExamples checks the examples of the chapter.
func TestExamples(t *testing.T) {
	a, b := ref("a"), ref("b")
	sum := with(api.ExBinary, "+", a, with(api.ExBinary, "*", b, a))
	if l := syntax.Refs(sum); !slices.Equal(l, []string{"a", "b"}) {
		t.Errorf("Refs: %v", l)
	}
	loop := of(api.ExList, each("k", "v", ref("l"), with(api.ExBinary, "+", ref("v"), ref("x"))))
	if l := syntax.Refs(loop); !slices.Equal(l, []string{"l", "x"}) {
		t.Errorf("Refs: %v", l)
	}
	if n := syntax.Size(with(api.ExBinary, "+", number(10000), number(20000))); n != 3 {
		t.Errorf("Size: %d", n)
	}
	if e := syntax.CheckExpr(of(api.ExOr, number(10000), value())); e != api.OK {
		t.Errorf("1 | {} with an ExValue: %d", e)
	}
	if e := syntax.CheckExpr(of(api.ExOr, number(10000), braces())); e != api.ErrKind {
		t.Errorf("1 | {} with an ExStruct: %d", e)
	}
}

// TestCheckValid checks valid files, and that whatever fields a kind does not use make them not valid (P25.1).
func TestCheckValid(t *testing.T) {
	exprFields := map[int]string{
		api.ExBool: "Num", api.ExNumber: "Num", api.ExString: "Text", api.ExInterp: "Subs", api.ExType: "Text", api.ExBound: "Text Subs", api.ExRef: "Text Num Names Subs", api.ExSelect: "Text Subs", api.ExIndex: "Subs",
		api.ExStruct: "Decls Tail", api.ExList: "Num Subs", api.ExEach: "Names Subs", api.ExAnd: "Subs", api.ExOr: "Subs", api.ExMark: "Subs", api.ExUnary: "Text Subs", api.ExBinary: "Text Subs", api.ExCall: "Text Subs", api.ExValue: "Decls Tail",
	}
	declFields := map[int]string{
		api.DcField: "Presence Label Subs", api.DcPattern: "Label Subs", api.DcEmbed: "Subs", api.DcLet: "Label Subs", api.DcIf: "Subs Body Tail", api.DcFor: "Names Subs Body Tail", api.DcDynamic: "Subs",
	}
	wrong := map[string]any{
		"Text": "x", "Num": int64(1), "Names": [2]string{"", "x"}, "Label": "x", "Presence": 1, "Tail": []string{""},
		"Subs": []api.Expr{{Kind: api.ExTop}}, "Decls": []api.Decl{{Kind: api.DcOpen}}, "Body": []api.Decl{{Kind: api.DcEmbed, Subs: []api.Expr{{Kind: api.ExTop}}}},
	}
	x := random(25)
	exprKinds, declKinds := map[int]bool{}, map[int]bool{}
	for range 2000 {
		f := someFile(&x)
		if e := syntax.Check(f); e != api.OK {
			t.Fatalf("Check(%+v): %d", f, e)
		}
		exprs, decls := parts(f.Decls)
		spoil := func(part reflect.Value, used string) {
			for name, v := range wrong {
				field := part.FieldByName(name)
				if !field.IsValid() || slices.Contains(strings.Fields(used), name) {
					continue
				}
				old := reflect.ValueOf(field.Interface())
				field.Set(reflect.ValueOf(v))
				if e := syntax.Check(f); e != api.ErrKind {
					t.Fatalf("kind %v with %s: %d", part.FieldByName("Kind"), name, e)
				}
				field.Set(old)
			}
			kind := part.FieldByName("Kind")
			old := kind.Int()
			for _, k := range []int64{0, -1, 23, 1 << 40} {
				kind.SetInt(k)
				if e := syntax.Check(f); e != api.ErrKind {
					t.Fatalf("kind %d: %d", k, e)
				}
			}
			kind.SetInt(old)
		}
		for _, e := range exprs {
			exprKinds[e.Kind] = true
			spoil(reflect.ValueOf(e).Elem(), exprFields[e.Kind])
		}
		for _, d := range decls {
			declKinds[d.Kind] = true
			spoil(reflect.ValueOf(d).Elem(), declFields[d.Kind])
			for _, s := range []string{"\n", "a\nb"} {
				old := d.Trail
				d.Trail = s
				if e := syntax.Check(f); e != api.ErrKind {
					t.Fatalf("Trail %q: %d", s, e)
				}
				d.Trail = old
				lead := d.Lead
				d.Lead = []string{"", s}
				if e := syntax.Check(f); e != api.ErrKind {
					t.Fatalf("Lead %q: %d", s, e)
				}
				d.Lead = lead
			}
		}
	}
	if len(exprKinds) != 22 || len(declKinds) != 8 {
		t.Errorf("not all kinds: %v, %v", exprKinds, declKinds)
	}
}

// TestCheckFile checks the parts of files other than expressions (P25.1).
func TestCheckFile(t *testing.T) {
	for i, f := range []api.File{
		{}, {Package: "p", Imports: []api.Import{{Name: "a"}, {Name: "a", Path: "\n\xff"}}, Tail: []string{"", " x\r"}}, {Package: "#p"},
		file(api.Decl{Kind: api.DcOpen, Lead: []string{""}, Trail: "x", Pos: -7}), file(named(api.DcPattern, ".*", top()), named(api.DcPattern, "[]", top())), file(named(api.DcLet, "a", braces(named(api.DcLet, "a", top())))),
		file(body(api.DcIf, top()), body(api.DcFor, top(), field("", top()))), file(decl(api.DcDynamic, top(), value()), decl(api.DcEmbed, braces())),
	} {
		if e := syntax.Check(f); e != api.OK {
			t.Errorf("valid file %d: %d", i, e)
		}
	}
	badLoop := func(k, v string) api.Decl {
		d := body(api.DcFor, top())
		d.Names = [2]string{k, v}
		return d
	}
	presence := func(n int) api.Decl {
		d := field("a", top())
		d.Presence = n
		return d
	}
	tail := body(api.DcIf, top())
	tail.Tail = []string{"a", "\nb"}
	for i, f := range []api.File{
		{Package: "int"}, {Package: "a b"}, {Package: "_"}, {Package: "1"}, {Imports: []api.Import{{}}}, {Imports: []api.Import{{Name: "a"}, {Name: "if"}}}, {Imports: []api.Import{{Name: "a.b", Path: "a"}}}, {Tail: []string{"", "\n"}}, file(tail),
		file(presence(0)), file(presence(4)), file(presence(-1)), file(named(api.DcPattern, "", top())), file(named(api.DcPattern, "(", top())), file(named(api.DcPattern, strings.Repeat("a", 1001), top())), file(named(api.DcPattern, "a"+strings.Repeat("*", 16), top())),
		file(named(api.DcLet, "", top())), file(named(api.DcLet, "a-b", top())), file(named(api.DcLet, "let", top())), file(badLoop("a", "a")), file(badLoop("", "a")), file(badLoop("a", "")), file(badLoop("a", "in")),
		file(api.Decl{Kind: api.DcField, Presence: 1}), file(decl(api.DcEmbed)), file(decl(api.DcEmbed, top(), top())), file(decl(api.DcDynamic, top())), file(decl(api.DcDynamic, top(), top(), top())), file(decl(api.DcOpen, top())), file(decl(api.DcIf)), file(decl(api.DcIf, top(), top())), file(api.Decl{Kind: api.DcLet, Label: "a"}), file(api.Decl{Kind: api.DcPattern, Label: "a", Subs: []api.Expr{top(), top()}}), file(api.Decl{Kind: api.DcFor, Names: [2]string{"k", "v"}}), file(api.Decl{Kind: api.DcField, Presence: 1, Subs: []api.Expr{top(), top()}}),
		file(body(api.DcIf, top(), named(api.DcLet, "a", top()))), file(body(api.DcFor, top(), decl(api.DcOpen))), file(field("a", of(api.ExList, value(decl(api.DcOpen))))), file(field("a", of(api.ExList, value(named(api.DcLet, "a", top()))))), file(decl(api.DcDynamic, top(), braces())), file(decl(api.DcDynamic, braces(), top())),
		file(body(api.DcIf, braces())), file(body(api.DcFor, braces())), file(body(api.DcIf, top(), field("a", braces()))), file(body(api.DcFor, top(), decl(api.DcEmbed, braces()))), file(field("a", of(api.ExAnd, of(api.ExOr, top(), braces()), top()))), file(field("a", value())), file(decl(api.DcEmbed, value())),
	} {
		if e := syntax.Check(f); e != api.ErrKind {
			t.Errorf("file %d: %d", i, e)
		}
	}
}

// TestCheckExpr checks valid expressions, and those that are not (P25.1).
func TestCheckExpr(t *testing.T) {
	a := top()
	list := func(n int64, l ...api.Expr) api.Expr { return api.Expr{Kind: api.ExList, Num: n, Subs: l} }
	mark := of(api.ExMark, a)
	item := each("k", "v", a, a)
	for i, e := range []api.Expr{
		of(api.ExNull), {Kind: api.ExBool, Num: 1}, number(api.MaxUnits), number(0), with(api.ExString, "\n"), of(api.ExInterp, a), of(api.ExInterp, a, a, a), of(api.ExList), list(1, a), list(1, item, a), list(0, a, item), with(api.ExCall, "f"), with(api.ExCall, "f", a, a, a),
		of(api.ExOr, mark, mark), of(api.ExOr, a, mark, a), each2(list(0, each("k", "v", a, a, a))), resolved("field", 3), resolved("loop", 1), resolved("package", 1<<62), resolved("unknown", 0), let("a", braces()), let("a", let("b", braces())), of(api.ExAnd, braces(), of(api.ExAnd, a, braces())),
		with(api.ExUnary, "-", let("a", braces())), with(api.ExSelect, "", a), braces(decl(api.DcOpen), named(api.DcLet, "a", braces())), with(api.ExUnary, "!", of(api.ExAnd, value(), a)), let("a", of(api.ExAnd, a, braces(decl(api.DcOpen)))), of(api.ExOr, value(field("a", value())), of(api.ExMark, value())),
	} {
		if got := syntax.CheckExpr(e); got != api.OK {
			t.Errorf("valid expression %d: %d", i, got)
		}
	}
	bad := []api.Expr{
		{}, {Kind: api.ExBool, Num: 2}, {Kind: api.ExBool, Num: -1}, number(-1), number(api.MaxUnits + 1), with(api.ExType, "float"), with(api.ExType, ""), of(api.ExInterp), with(api.ExBound, "==", a), with(api.ExBound, "<"), with(api.ExBound, "<", a, a), with(api.ExBound, "", a), with(api.ExUnary, "+", a), with(api.ExUnary, "-"), with(api.ExUnary, "-", a, a),
		with(api.ExBinary, "+", a), with(api.ExBinary, "+", a, a, a), with(api.ExBinary, "&", a, a), with(api.ExBinary, "=~", a, a), with(api.ExBinary, "", a, a), with(api.ExSelect, "a"), with(api.ExSelect, "a", a, a), of(api.ExIndex, a), of(api.ExIndex, a, a, a), of(api.ExAnd, a), of(api.ExAnd, a, a, a), of(api.ExOr, a), of(api.ExOr), of(api.ExOr, mark),
		mark, of(api.ExOr, a, of(api.ExMark)), of(api.ExOr, a, of(api.ExMark, a, a)), of(api.ExOr, a, of(api.ExMark, mark)), of(api.ExAnd, a, mark), list(0, mark), item, of(api.ExOr, a, item), list(1, item), list(1), list(1, a, item), list(2, a), list(-1, a), list(0, each("k", "v", a)), list(0, each("k", "v", a, a, a, a)), list(0, each("k", "k", a, a)), list(0, each("", "k", a, a)), list(0, each("k", "int", a, a)), list(0, each("k", "v", a, item)), list(0, list(1, a, item)),
		ref(""), ref("a b"), ref("null"), ref("_"), with(api.ExCall, ""), with(api.ExCall, "in", a), value(), of(api.ExAnd, value(), a), of(api.ExAnd, a, of(api.ExAnd, a, value())), let("a", value()), with(api.ExUnary, "-", braces()), with(api.ExUnary, "-", of(api.ExAnd, a, braces())), list(0, braces()), of(api.ExIndex, braces(), a), with(api.ExSelect, "a", braces()), with(api.ExCall, "f", braces()), list(1, braces()),
		resolved("Field", 0), resolved("x", 0), resolved("field", -1), with(api.ExRef, "a", a), {Kind: api.ExRef, Text: "a", Num: 1}, {Kind: api.ExRef, Text: "a", Names: [2]string{"", "field"}}, {Kind: api.ExRef, Text: "a", Names: [2]string{"field", "x"}}, {Kind: api.ExRef, Text: "a", Names: [2]string{"let"}}, {Kind: api.ExRef, Text: "a", Names: [2]string{"let"}, Subs: []api.Expr{a, a}}, {Kind: api.ExRef, Text: "a", Names: [2]string{"field"}, Subs: []api.Expr{a}}, {Kind: api.ExRef, Text: "a", Names: [2]string{"let"}, Num: -1, Subs: []api.Expr{a}},
		{Kind: api.ExStruct, Tail: []string{"\n"}}, {Kind: api.ExTop, Decls: []api.Decl{{Kind: api.DcOpen}}}, braces(decl(api.DcOpen), decl(api.DcOpen, a)), braces(field("a", value())), let("a", with(api.ExUnary, "-", braces())),
	}
	for i, e := range bad {
		if got := syntax.CheckExpr(e); got != api.ErrKind {
			t.Errorf("expression %d: %d", i, got)
		}
		if got := syntax.Check(file(field("x", e))); got != api.ErrKind {
			t.Errorf("expression %d in a field: %d", i, got)
		}
	}
}

// each2 returns an expression of which a list is a part.
func each2(e api.Expr) api.Expr { return of(api.ExIndex, e, e) }

// TestCheckDepth checks trees that are nested as deeply as is permitted, and more deeply (P25.1).
func TestCheckDepth(t *testing.T) {
	nested := func(d api.Decl, n int) api.Decl {
		for range n {
			d = field("a", braces(d))
		}
		return d
	}
	for i, c := range []struct {
		e    api.Expr
		want api.Errno
	}{
		{unary(top(), 15), api.OK}, {unary(top(), 16), api.ErrDepth}, {unary(top(), 60000), api.ErrDepth}, {unary(of(99), 16), api.ErrKind}, {unary(of(99), 60000), api.ErrKind}, {unary(value(), 15), api.OK}, {unary(value(decl(api.DcEmbed, top())), 14), api.ErrDepth}, {unary(value(decl(api.DcEmbed, top())), 13), api.OK}, {unary(braces(), 20), api.ErrKind},
		{with(api.ExBinary, "+", unary(top(), 30), with(api.ExBinary, "&", top(), top())), api.ErrKind}, {with(api.ExBinary, "+", with(api.ExBinary, "*", top()), unary(top(), 30)), api.ErrKind}, {let("a", unary(top(), 14)), api.OK}, {let("a", unary(top(), 15)), api.ErrDepth},
	} {
		if e := syntax.CheckExpr(c.e); e != c.want {
			t.Errorf("expression %d: %d, want %d", i, e, c.want)
		}
	}
	for i, c := range []struct {
		d    api.Decl
		want api.Errno
	}{
		{field("a", unary(top(), 14)), api.OK}, {field("a", unary(top(), 15)), api.ErrDepth}, {nested(decl(api.DcOpen), 7), api.OK}, {nested(decl(api.DcEmbed, top()), 7), api.OK}, {nested(decl(api.DcOpen), 8), api.ErrDepth}, {nested(decl(api.DcEmbed, unary(top(), 1)), 7), api.ErrDepth}, {nested(field("a", value()), 10), api.ErrKind},
		{field("a", of(api.ExAnd, top(), braces(nested(decl(api.DcOpen), 6)))), api.OK}, {field("a", of(api.ExAnd, top(), of(api.ExAnd, top(), braces(nested(decl(api.DcOpen), 6))))), api.ErrDepth},
		{body(api.DcIf, top(), body(api.DcIf, top(), body(api.DcIf, unary(top(), 13)))), api.ErrDepth}, {body(api.DcIf, top(), body(api.DcIf, top(), body(api.DcIf, unary(top(), 12)))), api.OK},
	} {
		if e := syntax.Check(file(decl(api.DcOpen), c.d)); e != c.want {
			t.Errorf("declaration %d: %d, want %d", i, e, c.want)
		}
	}
	deep := file(field("a", unary(top(), 20)))
	deep.Package = "1"
	if e := syntax.Check(deep); e != api.ErrKind {
		t.Errorf("deep, with a wrong name of the package: %d", e)
	}
	deep.Package, deep.Tail = "", []string{"\n"}
	if e := syntax.Check(deep); e != api.ErrKind {
		t.Errorf("deep, with a wrong comment: %d", e)
	}
}
