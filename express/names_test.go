package express_test

import (
	"math"
	"testing"

	"configlang/api"
	"configlang/express"
	"configlang/parser"
	"configlang/parts"
	"configlang/trial"
	"configlang/value"
)

// ref returns a reference.
func ref(name, resolved string, num int64) api.Expr {
	return api.Expr{Kind: api.ExRef, Text: name, Names: [2]string{resolved, ""}, Num: num}
}

// let returns a reference to a let with an expression.
func let(e api.Expr) api.Expr {
	return api.Expr{Kind: api.ExRef, Text: "l", Names: [2]string{"let", ""}, Subs: []api.Expr{e}}
}

// bind returns the binding of x.
func bind(depth int, v api.Value) api.Binding {
	return api.Binding{Name: "x", Depth: depth, Val: plain(v)}
}

// parsed returns the expression that a text denotes.
func parsed(t *testing.T, s string) api.Expr {
	t.Helper()
	e, f := parser.Expr(s)
	if f.Errno != api.OK {
		t.Fatalf("%s: %v", s, f)
	}
	return e
}

// TestNames checks to which bindings names refer (P32.1).
func TestNames(t *testing.T) {
	three, four := trial.Number(3), trial.Number(4)
	other := api.Binding{Name: "y", Val: plain(four)}
	env := []api.Binding{bind(1, one), bind(0, two), bind(-1, three), bind(1000, four), other}
	for i, c := range []struct {
		e    api.Expr
		env  []api.Binding
		want api.Value
		f    api.Errno
	}{
		{ref("x", "field", 0), env, two, 0}, {ref("x", "field", 1), env, one, 0}, {ref("x", "package", 1000), env, four, 0}, {ref("x", "package", 1), env, one, 0}, {ref("x", "unknown", 0), env, two, 0}, {ref("x", "unknown", 1), env, one, 0}, {ref("x", "loop", 0), env, three, 0}, {ref("x", "loop", 1), env, three, 0}, {ref("x", "", 0), env, three, 0}, {ref("y", "", 0), env, four, 0},
		{ref("x", "field", 2), env, bottom, api.ErrName}, {ref("x", "package", 2), env, bottom, api.ErrName}, {ref("x", "unknown", 1001), env, bottom, api.ErrName}, {ref("y", "loop", 0), env, bottom, api.ErrName}, {ref("y", "field", 1), env, bottom, api.ErrName}, {ref("z", "", 0), env, bottom, api.ErrName}, {ref("x", "", 0), nil, bottom, api.ErrName}, {ref("x", "loop", 0), nil, bottom, api.ErrName},
		// The last one counts.
		{ref("x", "", 0), []api.Binding{bind(0, one), bind(0, two)}, two, 0}, {ref("x", "", 0), []api.Binding{bind(-1, one), bind(0, two)}, two, 0}, {ref("x", "", 0), []api.Binding{bind(0, one), bind(1, two), bind(5, three)}, one, 0}, {ref("x", "", 0), []api.Binding{bind(1, two), bind(-2, three)}, bottom, api.ErrName}, {ref("x", "field", 1), []api.Binding{bind(1, two), bind(1, three), bind(0, one), bind(-1, one)}, three, 0}, {ref("x", "loop", 0), []api.Binding{bind(-1, two), bind(-1, three), bind(0, one)}, three, 0}, {ref("x", "field", 0), []api.Binding{bind(0, two), bind(-1, three)}, two, 0}, {ref("x", "field", 0), []api.Binding{bind(-1, three)}, bottom, api.ErrName},
		{ref("x", "field", math.MaxInt64), []api.Binding{bind(math.MaxInt64, two), bind(-1, three)}, two, 0}, {ref("x", "field", math.MaxInt32), []api.Binding{bind(-1, three)}, bottom, api.ErrName}, {ref("x", "field", 1<<32), []api.Binding{bind(0, three)}, bottom, api.ErrName},
		// A reference to a let has no binding.
		{let(ref("x", "", 0)), env, three, 0}, {let(ref("x", "field", 1)), []api.Binding{{Name: "l", Val: plain(four)}, bind(1, one)}, one, 0}, {let(api.Expr{Kind: api.ExNumber, Num: api.Unit}), nil, one, 0}, {let(let(ref("x", "", 0))), env, three, 0}, {let(ref("z", "", 0)), env, bottom, api.ErrName}, {let(api.Expr{Kind: api.ExStruct}), nil, structs.V, 0},
	} {
		got, e := express.Eval(c.e, c.env)
		if !same(got, e, plain(c.want), c.f) {
			t.Errorf("case %d: %s, %d, want %s, %d", i, trial.Show(got), e, trial.Show(plain(c.want)), c.f)
		}
	}
	// A binding is taken with its default.
	v := marked(ints, two)
	if got, e := express.Eval(ref("x", "", 0), []api.Binding{{Name: "x", Val: v}}); !same(got, e, v, api.OK) {
		t.Errorf("a default: %s, %d", trial.Show(got), e)
	}
	// Example 3.
	if got, e := express.Eval(parsed(t, "x + 1"), []api.Binding{bind(0, ints)}); !same(got, e, value.Top(), api.OK) {
		t.Errorf("example 3: %s, %d", trial.Show(got), e)
	}
}

// resolve returns a tree in which the references with a name are replaced.
func resolve(l []api.Expr, name string, by api.Expr) []api.Expr {
	var decls func(l []api.Decl) []api.Decl
	decls = func(l []api.Decl) []api.Decl {
		return parts.Each(l, func(d api.Decl) api.Decl {
			d.Subs, d.Body = resolve(d.Subs, name, by), decls(d.Body)
			return d
		})
	}
	return parts.Each(l, func(e api.Expr) api.Expr {
		if e.Kind == api.ExRef && e.Text == name {
			return by
		}
		e.Subs, e.Decls = resolve(e.Subs, name, by), decls(e.Decls)
		return e
	})
}

// TestLoopNames checks names that loops bind, within them and elsewhere, whether they are evaluated or not (P32.1).
func TestLoopNames(t *testing.T) {
	outer := api.Binding{Name: "x", Val: str("outer")}
	field := ref("x", "field", 0)
	loop, free, alias := ref("x", "loop", 0), ref("x", "", 0), let(ref("x", "", 0))
	for i, c := range []struct {
		text     string
		by       api.Expr
		want     string    // the text of the value with the binding
		f, alone api.Errno // the errors with it, and without it
	}{
		{`[for k, x in [1]: x]`, free, `[1]`, 0, 0}, {`[for k, x in [1]: x]`, loop, `[1]`, 0, 0}, {`[for x, v in [1]: x]`, loop, `[0]`, 0, 0}, {`[for k, x in [1]: x]`, field, `["outer"]`, 0, api.ErrName}, {`[for k, x in [1]: x]`, alias, `[1]`, 0, 0},
		{`[for k, x in [1] if x == 1: x]`, free, `[1]`, 0, 0}, {`[for k, x in [x]: x]`, free, `["outer"]`, 0, api.ErrName}, {`[for k, x in [1]: 0, x]`, free, `[0, "outer"]`, 0, api.ErrName}, {`[x, for k, x in [1]: 0]`, free, `["outer", 0]`, 0, api.ErrName}, {`[for k, x in [1]: 0, x]`, loop, ``, api.ErrName, api.ErrName},
		{`{for k, x in [1] {a: x}}`, free, `{a: 1}`, 0, 0}, {`{for k, x in [1] {a: x}}`, loop, `{a: 1}`, 0, 0}, {`{for k, x in [1] {a: x}}`, field, `{a: "outer"}`, 0, api.ErrName}, {`{for k, x in [x] {a: x}}`, free, `{a: "outer"}`, 0, api.ErrName}, {`{for k, x in [1] {}, a: x}`, free, `{a: "outer"}`, 0, api.ErrName}, {`{a: x, for k, x in [1] {}}`, free, `{a: "outer"}`, 0, api.ErrName},
		{`{for k, x in {x: 1} {for x, v in {b: 2} {(x): 3}, a: x}}`, loop, `{a: 1, b: 3}`, 0, 0}, {`{for k, x in [1] {if true {a: {b: [x]}}}}`, loop, `{a: {b: [1]}}`, 0, 0}, {`{for k, v in [1] {a: x}}`, free, `{a: "outer"}`, 0, api.ErrName}, {`[for k, v in [1]: [for i, x in [2]: x + v]]`, loop, `[[3]]`, 0, 0},
		// What is not evaluated counts, too.
		{`[for k, v in []: x]`, free, `[]`, 0, api.ErrName}, {`[for k, v in 1: x]`, free, `_|_`, 0, api.ErrName}, {`[for k, x in []: x]`, loop, `[]`, 0, 0}, {`[for k, x in [] if x: x]`, free, `[]`, 0, 0}, {`[for k, v in [] if x: 1]`, free, `[]`, 0, api.ErrName}, {`{for k, v in [] {a: x}}`, free, `{}`, 0, api.ErrName}, {`{if false {a: x}}`, free, `{}`, 0, api.ErrName}, {`{if false {a: x}}`, loop, ``, api.ErrName, api.ErrName}, {`{let y = x}`, free, `{}`, 0, api.ErrName}, {`_|_ & x`, free, `_|_`, 0, api.ErrName}, {`{if false {for k, x in [] {a: x}}}`, free, `{}`, 0, 0},
		{`[for k, v in []: x]`, alias, `[]`, 0, api.ErrName}, {`{[=~"a"]: x, (x): x}`, field, `{[=~"a"]: "outer", outer: "outer"}`, 0, api.ErrName}, {`<x`, free, `<"outer"`, 0, api.ErrName}, {`"\(x)"`, free, `"outer"`, 0, api.ErrName}, {`x.a | *x`, free, `_|_ | *"outer"`, 0, api.ErrName}, {`[...x]`, free, `[..."outer"]`, 0, api.ErrName}, {`{{x}}`, free, `_|_`, 0, api.ErrName}, {`{"a": 1}[x]`, free, `_`, 0, api.ErrName}, {`x({x: 1})`, free, `_|_`, 0, 0}, {`{x: 1}.x`, free, `1`, 0, 0},
	} {
		e := resolve([]api.Expr{parsed(t, c.text)}, "x", c.by)[0]
		var want api.Val
		if c.f == api.OK {
			want, _ = express.Constant(c.want)
		}
		// Bindings of other depths and names change nothing.
		env := []api.Binding{{Name: "k", Val: whole(7)}, {Name: "v", Depth: -1, Val: whole(8)}, outer, {Name: "x", Depth: 1, Val: whole(9)}, {Name: "l", Val: whole(9)}}
		if got, e := express.Eval(e, env); !same(got, e, want, c.f) {
			t.Errorf("case %d, %s: %s, %d, want %s", i, c.text, trial.Show(got), e, c.want)
		}
		if c.alone != api.OK {
			want = value.Bottom()
		}
		if got, e := express.Eval(e, []api.Binding{{Name: "x", Depth: 1, Val: whole(9)}}); !same(got, e, want, c.alone) {
			t.Errorf("case %d, %s alone: %s, %d", i, c.text, trial.Show(got), e)
		}
	}
}

// nested returns a list within lists, with a number of levels.
func nested(levels int, e api.Expr) api.Expr {
	for range levels - 1 {
		e = api.Expr{Kind: api.ExList, Subs: []api.Expr{e}}
	}
	return e
}

// TestErrors checks trees and bindings that are not valid, and which of several errors is returned (P32.1).
func TestErrors(t *testing.T) {
	number := api.Expr{Kind: api.ExNumber, Num: api.Unit}
	inList := func(e api.Expr) api.Expr { return api.Expr{Kind: api.ExList, Subs: []api.Expr{e}} }
	group := func(kind int, e api.Expr) api.Expr {
		return api.Expr{Kind: kind, Decls: []api.Decl{{Kind: api.DcEmbed, Subs: []api.Expr{e}}}}
	}
	good, wrong := bind(0, tower(16, true)), api.Binding{Name: "y", Val: marked(one, two)}
	x := ref("x", "", 0)
	for i, c := range []struct {
		e    api.Expr
		env  []api.Binding
		want api.Errno
	}{
		{api.Expr{}, nil, api.ErrKind}, {api.Expr{Kind: 23}, nil, api.ErrKind}, {api.Expr{Kind: api.ExNumber, Num: -1}, nil, api.ErrKind}, {api.Expr{Kind: api.ExMark, Subs: []api.Expr{number}}, nil, api.ErrKind}, {api.Expr{Kind: api.ExEach, Names: [2]string{"k", "v"}, Subs: []api.Expr{number, number}}, nil, api.ErrKind}, {api.Expr{Kind: api.ExBinary, Text: "&", Subs: []api.Expr{number, number}}, nil, api.ErrKind}, {inList(api.Expr{Kind: api.ExStruct}), nil, api.ErrKind}, {inList(api.Expr{Kind: api.ExValue}), nil, api.OK},
		{api.Expr{Kind: api.ExAnd, Subs: []api.Expr{{Kind: api.ExStruct}, {Kind: api.ExStruct}}}, nil, api.OK}, {api.Expr{Kind: api.ExAnd, Subs: []api.Expr{{Kind: api.ExStruct}, {Kind: api.ExValue}}}, nil, api.ErrKind}, {api.Expr{Kind: api.ExRef, Text: "x", Num: 1}, []api.Binding{good}, api.ErrKind}, {api.Expr{Kind: api.ExRef, Text: "1"}, nil, api.ErrKind},
		// A struct that opens no scope is examined as an item of a list.
		{api.Expr{Kind: api.ExValue}, nil, api.OK}, {api.Expr{Kind: api.ExStruct}, nil, api.OK}, {group(api.ExValue, api.Expr{Kind: api.ExStruct}), nil, api.ErrKind}, {group(api.ExStruct, api.Expr{Kind: api.ExStruct}), nil, api.OK}, {group(api.ExStruct, api.Expr{Kind: api.ExValue}), nil, api.ErrKind}, {group(api.ExValue, api.Expr{Kind: api.ExValue}), nil, api.OK}, {api.Expr{Kind: api.ExValue, Decls: []api.Decl{{Kind: api.DcOpen}}}, nil, api.ErrKind}, {api.Expr{Kind: api.ExStruct, Decls: []api.Decl{{Kind: api.DcOpen}}}, nil, api.OK}, {api.Expr{Kind: api.ExValue, Num: 1}, nil, api.ErrKind},
		{group(api.ExStruct, nested(14, number)), nil, api.OK}, {group(api.ExStruct, nested(15, number)), nil, api.ErrDepth}, {group(api.ExValue, nested(13, number)), nil, api.OK}, {group(api.ExValue, nested(14, number)), nil, api.ErrDepth}, {nested(16, number), nil, api.OK}, {nested(17, number), nil, api.ErrDepth}, {nested(18, api.Expr{}), nil, api.ErrKind},
		// Bindings, also of names that do not occur.
		{number, []api.Binding{wrong}, api.ErrKind}, {x, []api.Binding{wrong, good}, api.ErrKind}, {x, []api.Binding{good, wrong}, api.ErrKind}, {x, []api.Binding{good}, api.OK},
		// The order of errors.
		{nested(17, ref("z", "", 0)), []api.Binding{wrong}, api.ErrDepth}, {api.Expr{}, []api.Binding{wrong}, api.ErrKind}, {inList(ref("z", "", 0)), []api.Binding{wrong}, api.ErrKind}, {inList(x), []api.Binding{good, wrong}, api.ErrKind}, {api.Expr{Kind: api.ExList, Subs: []api.Expr{x, ref("z", "", 0)}}, []api.Binding{good}, api.ErrName}, {inList(inList(x)), []api.Binding{good}, api.ErrDepth},
	} {
		got, e := express.Eval(c.e, c.env)
		if e != c.want || e != api.OK && !parts.SameVal(got, api.Val{}) {
			t.Errorf("case %d: %s, %d, want %d", i, trial.Show(got), e, c.want)
		}
	}
	for i, w := range trial.Wrong() {
		for _, env := range [][]api.Binding{{{Name: "x", Val: w}}, {good, {Name: "y", Depth: 5, Val: w}}} {
			if got, e := express.Eval(x, env); !same(got, e, api.Val{}, api.ErrKind) {
				t.Errorf("wrong Val %d: %d", i, e)
			}
			if got, e := express.Decls(nil, env); !same(got, e, api.Val{}, api.ErrKind) {
				t.Errorf("wrong Val %d, Decls: %d", i, e)
			}
		}
	}
}

// TestDeep checks which parts may be nested too deeply (P32.1): x has 16 levels, y 15, and z has them in its default alone.
func TestDeep(t *testing.T) {
	env := []api.Binding{bind(0, tower(16, true)), {Name: "y", Val: plain(tower(15, true))}, {Name: "z", Val: marked(top, tower(16, false))}, {Name: "s", Val: plain(tower(16, false))}, {Name: "d", Val: exactly(api.Data{Kind: api.List, Items: []api.Data{{Kind: api.Struct}}})}}
	for range 13 {
		env[4].Val = plain(list(api.ListCase{Items: []api.Val{env[4].Val}})) // a struct at the level 15
	}
	for _, s := range []string{
		"{a: x}", "{a!: x}", "{a?: x}", "{a: z}", "{a: s}", "{[=~\"a\"]: x}", "{[string]: x}", "{(\"a\"): x}", "{(string): [x]}", "{(1): [x]}", "{([x]): 1}", "[x]", "[z]", "[...x]", "[1, ...x]", "[...z]", "[s]", "[[y]]", "{a: [y]}", "[{a: y}]", "[d]",
		// Also if something else is bottom, or unknown.
		"[_|_, x]", "[x, _|_]", "[_|_, ...x]", "{a: _|_, b: x}", "{if _|_ {}, b: x}", "_|_ & [x]", "[x] & _|_", "1 | [x]", "*1 | [x]", "1 | *[x]", "<[x]", "=~[x]", "[x].a", "[x][0]", "1[[x]]", "_|_[[x]]", "\"\\(null)\\([x])\"", "_|_ + [x]", "int + [x]", "[x] == 1", "!([x] == [x])", "len([x])", "f([x])", "len(_|_, [x])", "{let a = [x]}", "{let a = 1, let b = {c: x}}", "{[x]}", "{for k, v in [x] {}}", "{if [x] == 1 {}}", "[for k, v in [x]: 1]", "{[=~\"" + wide + "\"]: [x]}", "{(_|_): [x]}", "[[x], for k, v in 1: v]", "[for k, v in _: v, [x]]",
		// In loops and conditions.
		"{if true {a: x}}", "{if true {[x]}}", "{for k, v in [1] {a: x}}", "{for k, v in [1, 2] {if v == 2 {a: x}}}", "[for k, v in [1]: x]", "[for k, v in [1]: [x]]", "[for k, v in [1] if [x] == 1: 1]", "[for k, v in [1, 2] if v == 2: [x]]", "[for k, v in [1, bool] if v == 1: [x], _|_]", "[for k, v in x: [x]]", "{for k, v in z {a: x}}",
	} {
		if got, e := express.Eval(parsed(t, s), env); !same(got, e, api.Val{}, api.ErrDepth) {
			t.Errorf("%s: %s, %d", s, trial.Show(got), e)
		}
		if got, e := express.Eval(let(parsed(t, s)), env); !same(got, e, api.Val{}, api.ErrDepth) {
			t.Errorf("%s in a let: %s, %d", s, trial.Show(got), e)
		}
	}
	for s, want := range map[string]string{
		"{[=~\"[]\"]: x}": "{}", "{[=~\"" + wide + "\"]: x}": "_|_", "{(string): x}": "{}", "{(1): x}": "_|_", "{(_|_): x}": "_|_", "x & 1": "_|_", "1 | x & 1": "1", "x == 1": "false", "x.a": "_|_", "len(x)": "1", "[x[0]] == x": "true", "_|_ & x": "_|_", "{let a = x}": "{}", "{if x {}}": "_|_", "\"\\(x)\"": "_|_", "x + x == [x[0], x[0]]": "true", "[y] == x": "true", "{a: y} == {a: y}": "true", "close(s) == s": "true",
		"{if false {a: x}}": "{}", "{if bool {a: x}}": "{}", "{if 1 {a: x}}": "_|_", "{for k, v in [] {a: x}}": "{}", "{for k, v in _ {a: x}}": "{}", "{for k, v in 1 {a: x}}": "_|_", "[for k, v in []: x]": "[]", "[for k, v in _: [x]]": "[...]", "[for k, v in 1: [x]]": "_|_", "[for k, v in [1] if false: [x]]": "[]", "[for k, v in [1] if bool: [x]]": "[...]", "[for k, v in [1] if 5: [x]]": "_|_", "[for k, v in [] if [x] == 1: 1]": "[]", "[for k, v in _ if [x] == 1: 1]": "[...]", "[for k, v in 1 if [x] == 1: 1]": "_|_",
		// A list that is not composed, as a source or a condition of it is wrong or open.
		"[x, for k, v in 1: v]": "_|_", "[x, for k, v in _: v]": "[...]", "[for k, v in [1] if bool: v, x]": "[...]", "[x, for k, v in [1] if 5: v]": "_|_", "{a: 1, for k, v in s {(k): 1}}": "{a: 1}",
	} {
		v, f := express.Constant(want)
		if got, e := express.Eval(parsed(t, s), env); f.Errno != api.OK || !same(got, e, v, api.OK) {
			t.Errorf("%s: %s, %d, want %s", s, trial.Show(got), e, want)
		}
	}
	// Levels of the trees count for themselves.
	if got, e := express.Eval(nested(16, api.Expr{Kind: api.ExTop}), env); e != api.OK || levels(got.V) != api.MaxDepth {
		t.Errorf("16 levels: %d", e)
	}
}
