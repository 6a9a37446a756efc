package express_test

import (
	"configlang/api"
	"configlang/concrete"
	"configlang/regex"
	"configlang/trial"
	"configlang/value"
)

// wide is a regular expression with too many states.
const wide = "(a|b)*a(a|b)(a|b)(a|b)(a|b)(a|b)(a|b)(a|b)(a|b)"

// tower returns a value of a number of levels, of lists or of structs, without defaults in them, which would double it with each level.
func tower(levels int, lists bool) api.Value {
	v := trial.Number(1)
	for range levels - 1 {
		if lists {
			v = list(api.ListCase{Items: []api.Val{{V: v}}})
		} else {
			v = record(trial.Open(api.Field{Label: "a", Presence: api.Present, Val: api.Val{V: v}}))
		}
	}
	return v
}

// values returns values of all kinds to which names are bound.
func values() []api.Val {
	some := func(l ...api.Value) api.Value {
		v := api.Value{}
		for _, w := range l {
			v = trial.Union(v, w)
		}
		return v
	}
	text := trial.Text
	words := list(closed(text("a"), text("b")))
	numbers := list(closed(one, trial.Number(3), two))
	ab := record(shut(present("a", one), present("b", text("x"))))
	nested := record(trial.Open(present("a", ab), present("b", numbers), present("c", text("c"))))
	yes, _ := concrete.Of(api.Data{Kind: api.Bool, Num: 1})
	no, _ := concrete.Of(api.Data{Kind: api.Bool})
	half, _ := concrete.Of(api.Data{Kind: api.Number, Num: 15000})
	return []api.Val{
		value.Top(), value.Bottom(), plain(one), plain(two), half, marked(some(one, two), one), marked(ints, two), plain(ints), plain(trial.Kind("number")),
		plain(text("a")), plain(text("")), plain(text("a.*")), plain(text("b|[")), plain(text(wide)), marked(trial.Kind("string"), text("b")), plain(trial.Kind("string")), plain(api.Value{Scalars: api.Scalars{Null: true}}),
		yes, no, plain(trial.Kind("bool")), marked(trial.Kind("bool"), yes.V), marked(trial.Kind("bool"), bottom),
		plain(list(closed())), plain(words), plain(numbers), plain(list(closed(ints, one))), plain(list(longer(ints, one))), plain(list(longer(top))), plain(list(closed(yes.V, no.V))), plain(list(closed(yes.V, trial.Kind("bool")))), plain(list(closed(one, ab, words))), marked(some(one, words), words), plain(some(one, words)), plain(some(words, ab)),
		plain(record(shut())), plain(record(trial.Open())), plain(ab), plain(nested), plain(record(trial.Open(trial.Required("a", ints)))), plain(record(trial.Open(trial.Required("_h", one), present("a", ints)))), plain(some(ab, nested)), marked(some(ab, nested, one), ab), marked(some(ab, nested), bottom), plain(record(trial.Fields(plain(ints)))), marked(top, ab), marked(top, one), marked(top, bottom),
		plain(record(trial.Open(present("a", yes.V), present("b", no.V)))), plain(record(trial.Open(api.Field{Label: "a", Presence: api.Present, Val: marked(ints, one)}))),
		plain(tower(16, true)), plain(tower(16, false)), plain(tower(15, true)), plain(tower(14, false)), marked(top, tower(16, true)), plain(some(tower(16, false), one)), plain(tower(16, true)), plain(list(closed(one, tower(15, true)))),
	}
}

// grower writes random trees, whose names are bound by env.
type grower struct {
	x    trial.Random
	vals []api.Val // to which names are bound
	env  []api.Binding
}

// newGrower returns a grower whose trees depend on a number.
func newGrower(seed int) *grower {
	return &grower{x: trial.Random(seed), vals: values()}
}

// bindings returns random bindings of some names with several depths.
func (g *grower) bindings() []api.Binding {
	names := []string{"a", "b", "c", "d", "k", "v"}
	var env []api.Binding
	for range 4 + g.x.Below(14) {
		v := trial.Pick(&g.x, g.vals...)
		if g.x.Below(6) == 0 {
			v = trial.Valid(&g.x, 1+g.x.Below(3))
		}
		env = append(env, api.Binding{Name: trial.Pick(&g.x, names...), Depth: trial.Pick(&g.x, 0, 0, 0, -1, 1, 2, 1000), Val: v})
	}
	return env
}

// alone returns an expression that stands alone, with new bindings.
func (g *grower) alone(levels int) api.Expr {
	g.env = g.bindings()
	if g.chance(6) {
		return api.Expr{Kind: api.ExValue, Decls: g.decls(levels, false, nil)}
	}
	return g.expr(levels, true, trial.Pick(&g.x, kinds()...), nil)
}

// chance reports one of n cases.
func (g *grower) chance(n int) bool {
	return g.x.Below(n) == 0
}

// ref returns a reference that is bound, most of the time.
func (g *grower) ref(loops []string) api.Expr {
	e := api.Expr{Kind: api.ExRef}
	if len(loops) > 0 && !g.chance(3) {
		e.Text = trial.Pick(&g.x, loops...)
		e.Names[0] = trial.Pick(&g.x, "", "loop")
		return e
	}
	b := trial.Pick(&g.x, g.env...)
	e.Text = b.Name
	resolved := func() {
		e.Names[0], e.Num = trial.Pick(&g.x, "field", "package", "unknown"), int64(b.Depth)
	}
	switch {
	case b.Depth == -1:
		e.Names[0] = trial.Pick(&g.x, "", "loop")
	case b.Depth > 0 || g.chance(2):
		resolved()
	}
	if e.Names[0] == "loop" {
		e.Num = int64(g.x.Below(2)) // which says nothing
	}
	if g.chance(80) {
		return api.Expr{Kind: api.ExRef, Text: "a", Names: [2]string{trial.Pick(&g.x, "field", "loop"), ""}, Num: 7}
	}
	return e
}

// leaf returns an expression without Subs.
func (g *grower) leaf(kind string, loops []string) api.Expr {
	x := &g.x
	if !g.chance(4) {
		return g.ref(loops)
	}
	switch kind {
	case "number":
		return trial.Pick(x, api.Expr{Kind: api.ExNumber, Num: int64(x.Below(9)) * 5000}, api.Expr{Kind: api.ExNumber, Num: int64(x.Below(3)) * api.Unit}, api.Expr{Kind: api.ExType, Text: trial.Pick(x, "int", "number")})
	case "string":
		return trial.Pick(x, api.Expr{Kind: api.ExString, Text: trial.Pick(x, "", "a", "b", "ab", "a*", "_h", "(")}, api.Expr{Kind: api.ExType, Text: "string"})
	case "bool":
		return trial.Pick(x, api.Expr{Kind: api.ExBool, Num: int64(x.Below(2))}, api.Expr{Kind: api.ExBool, Num: 1}, api.Expr{Kind: api.ExType, Text: "bool"})
	case "list":
		return api.Expr{Kind: api.ExList}
	}
	return trial.Pick(x, api.Expr{Kind: api.ExTop}, api.Expr{Kind: api.ExBottom}, api.Expr{Kind: api.ExNull}, api.Expr{Kind: api.ExType, Text: "null"}, api.Expr{Kind: api.ExNumber, Num: 10000})
}

// kinds are the kinds of data that expressions are to have.
func kinds() []string {
	return []string{"number", "string", "bool", "list", "struct"}
}

// expr returns an expression with at most a number of levels whose data is often of a kind.
func (g *grower) expr(levels int, conjunct bool, kind string, loops []string) api.Expr {
	if g.chance(8) {
		kind = trial.Pick(&g.x, kinds()...)
	}
	if levels < 2 || g.chance(5) {
		return g.leaf(kind, loops)
	}
	if g.chance(3) {
		return g.mixed(levels, conjunct, kind, loops)
	}
	sub := func(kind string) api.Expr { return g.expr(levels-1, false, kind, loops) }
	call := func(name string, l ...api.Expr) api.Expr { return api.Expr{Kind: api.ExCall, Text: name, Subs: l} }
	binary := func(kind string, ops ...string) api.Expr {
		return api.Expr{Kind: api.ExBinary, Text: trial.Pick(&g.x, ops...), Subs: []api.Expr{sub(kind), sub(kind)}}
	}
	switch n := g.x.Below(4); kind {
	case "number":
		return []func() api.Expr{
			func() api.Expr { return binary("number", "+", "-", "*", "/", "%") },
			func() api.Expr { return api.Expr{Kind: api.ExUnary, Text: "-", Subs: []api.Expr{sub("number")}} },
			func() api.Expr { return call("len", sub(trial.Pick(&g.x, "string", "list", "struct"))) },
			func() api.Expr { return call(trial.Pick(&g.x, "sum", "max", "min", "plus"), sub("list")) },
		}[n]()
	case "string":
		return []func() api.Expr{
			func() api.Expr { return binary("string", "+") },
			func() api.Expr { return api.Expr{Kind: api.ExInterp, Subs: g.several(levels, "string", loops)} },
			func() api.Expr { return api.Expr{Kind: api.ExInterp, Subs: g.several(levels, "number", loops)} },
			func() api.Expr { return call("concat", sub("list"), sub("string")) },
		}[n]()
	case "bool":
		return []func() api.Expr{
			func() api.Expr { return binary(trial.Pick(&g.x, "number", "string"), "<", "<=", ">", ">=", "==", "!=") },
			func() api.Expr { return binary("bool", "&&", "||") },
			func() api.Expr { return binary(trial.Pick(&g.x, kinds()...), "==", "!=") },
			func() api.Expr { return api.Expr{Kind: api.ExUnary, Text: "!", Subs: []api.Expr{sub("bool")}} },
		}[n]()
	case "list":
		return []func() api.Expr{
			func() api.Expr { return g.list(levels, loops) },
			func() api.Expr { return g.list(levels, loops) },
			func() api.Expr { return binary("list", "+") },
			func() api.Expr { return call(trial.Pick(&g.x, "keys", "values", "sort"), sub("struct")) },
		}[n]()
	}
	e := api.Expr{Kind: api.ExValue, Decls: g.decls(levels-1, conjunct, loops)}
	if conjunct {
		e.Kind = api.ExStruct
	}
	return e
}

// several returns one to three expressions.
func (g *grower) several(levels int, kind string, loops []string) []api.Expr {
	var l []api.Expr
	for range 1 + g.x.Below(3) {
		l = append(l, g.expr(levels-1, false, kind, loops))
	}
	return l
}

// mixed returns an expression that can have data of any kind.
func (g *grower) mixed(levels int, conjunct bool, kind string, loops []string) api.Expr {
	sub := func(kind string) api.Expr { return g.expr(levels-1, false, kind, loops) }
	switch g.x.Below(9) {
	case 0:
		e := api.Expr{Kind: api.ExAnd}
		for range 2 {
			e.Subs = append(e.Subs, g.expr(levels-1, conjunct, kind, loops))
		}
		return e
	case 1:
		e := api.Expr{Kind: api.ExOr, Subs: g.several(levels, kind, loops)}
		e.Subs = append(e.Subs, sub(kind))
		for i, s := range e.Subs {
			if g.chance(4) && levels > 2 {
				e.Subs[i] = api.Expr{Kind: api.ExMark, Subs: []api.Expr{s}}
			}
		}
		return e
	case 2:
		return api.Expr{Kind: api.ExSelect, Text: trial.Pick(&g.x, "a", "b", "c", ""), Subs: []api.Expr{sub("struct")}}
	case 3:
		return api.Expr{Kind: api.ExIndex, Subs: []api.Expr{sub("list"), sub("number")}}
	case 4:
		return api.Expr{Kind: api.ExIndex, Subs: []api.Expr{sub("struct"), sub("string")}}
	case 5:
		return api.Expr{Kind: api.ExRef, Text: "a", Names: [2]string{"let", ""}, Num: int64(g.x.Below(3)), Subs: []api.Expr{g.expr(levels-1, true, kind, loops)}}
	case 6:
		return api.Expr{Kind: api.ExCall, Text: trial.Pick(&g.x, "and", "or", "close"), Subs: []api.Expr{sub("list")}}
	case 7:
		return api.Expr{Kind: api.ExBound, Text: trial.Pick(&g.x, "=~", "!~"), Subs: []api.Expr{sub("string")}}
	}
	return api.Expr{Kind: api.ExBound, Text: trial.Pick(&g.x, "<", "<=", ">", ">=", "!="), Subs: []api.Expr{sub(kind)}}
}

// names returns two names of a loop.
func (g *grower) names() [2]string {
	return trial.Pick(&g.x, [2]string{"k", "v"}, [2]string{"a", "b"}, [2]string{"v", "d"})
}

// list returns a list.
func (g *grower) list(levels int, loops []string) api.Expr {
	e := api.Expr{Kind: api.ExList}
	kind := trial.Pick(&g.x, kinds()...)
	for range g.x.Below(4) {
		if !g.chance(3) || levels < 3 {
			e.Subs = append(e.Subs, g.expr(levels-1, false, kind, loops))
			continue
		}
		each := api.Expr{Kind: api.ExEach, Names: g.names()}
		inner := append(loops[:len(loops):len(loops)], each.Names[:]...)
		each.Subs = append(each.Subs, g.expr(levels-2, false, trial.Pick(&g.x, "list", "struct"), loops))
		if g.chance(2) {
			each.Subs = append(each.Subs, g.expr(levels-2, false, "bool", inner))
		}
		each.Subs = append(each.Subs, g.expr(levels-2, false, kind, inner))
		e.Subs = append(e.Subs, each)
	}
	if g.chance(4) {
		e.Num = 1
		e.Subs = append(e.Subs, g.expr(levels-1, false, kind, loops))
	}
	return e
}

// decls returns declarations, directly in an ExStruct or elsewhere.
func (g *grower) decls(levels int, scope bool, loops []string) []api.Decl {
	if levels < 2 {
		return nil
	}
	var l []api.Decl
	for range g.x.Below(4) {
		l = append(l, g.decl(levels, scope, loops))
	}
	return l
}

// decl returns a declaration.
func (g *grower) decl(levels int, scope bool, loops []string) api.Decl {
	x := &g.x
	sub := func(conjunct bool, kind string) api.Expr { return g.expr(levels-1, conjunct, kind, loops) }
	some := func() string { return trial.Pick(x, kinds()...) }
	switch n := x.Below(13); {
	case n < 4:
		return api.Decl{Kind: api.DcField, Label: trial.Pick(x, "a", "b", "c", "", "_h", "#d", "ab"), Presence: trial.Pick(x, 1, 1, 1, 2, 3), Subs: []api.Expr{sub(scope, some())}}
	case n < 5:
		return api.Decl{Kind: api.DcPattern, Label: pattern(x), Subs: []api.Expr{sub(scope, some())}}
	case n < 6:
		return api.Decl{Kind: api.DcEmbed, Subs: []api.Expr{sub(scope, "struct")}}
	case n < 8:
		return api.Decl{Kind: api.DcIf, Subs: []api.Expr{sub(false, "bool")}, Body: g.decls(levels-1, false, loops)}
	case n < 10:
		d := api.Decl{Kind: api.DcFor, Names: g.names(), Subs: []api.Expr{sub(false, trial.Pick(x, "list", "struct"))}}
		d.Body = g.decls(levels-1, false, append(loops[:len(loops):len(loops)], d.Names[:]...))
		return d
	case n < 11 && scope:
		return api.Decl{Kind: api.DcLet, Label: "l", Subs: []api.Expr{sub(true, some())}}
	case n < 12 && scope:
		return api.Decl{Kind: api.DcOpen}
	}
	return api.Decl{Kind: api.DcDynamic, Subs: []api.Expr{sub(false, "string"), sub(false, some())}}
}

// pattern returns a regular expression of labels.
func pattern(x *trial.Random) string {
	s := trial.Pick(x, "a.*", "b|c", "[]", ".*", "[^a]*", "()", "_.*", "a", wide)
	if _, f := regex.Parse(s); f.Errno != api.OK {
		panic(s)
	}
	return s
}
