package express_test

import (
	"strings"
	"testing"

	"configlang/api"
	"configlang/automaton"
	"configlang/concrete"
	"configlang/express"
	"configlang/lang"
	"configlang/parser"
	"configlang/refine"
	"configlang/scalar"
	"configlang/trial"
	"configlang/value"
)

// Vals of the tests below.
var (
	structs  = plain(record(trial.Open()))
	lists    = plain(list(longer(top)))
	booleans = plain(trial.Kind("bool"))
	numbers  = plain(trial.Kind("number"))
	texts    = plain(trial.Kind("string"))
	nothing  = value.Bottom()
)

// exactly returns the Val of data.
func exactly(d api.Data) api.Val {
	v, _ := concrete.Of(d)
	return v
}

// num, str, flag and null return the Vals of scalars.
func num(units int64) api.Val { return exactly(api.Data{Kind: api.Number, Num: units}) }
func str(s string) api.Val    { return exactly(api.Data{Kind: api.String, Str: s}) }
func flag(n int64) api.Val    { return exactly(api.Data{Kind: api.Bool, Num: n}) }
func null() api.Val           { return exactly(api.Data{Kind: api.Null}) }

// whole returns the Val of a whole number.
func whole(n int64) api.Val { return num(n * api.Unit) }

// tuple returns the Val of the lists of some items.
func tuple(l ...api.Val) api.Val { return plain(list(api.ListCase{Items: l})) }

// field returns a present field.
func field(label string, v api.Val) api.Field {
	return api.Field{Label: label, Presence: api.Present, Val: v}
}

// with returns the Val of the structs with some fields.
func with(l ...api.Field) api.Val { return plain(record(trial.Open(l...))) }

// class returns the Val of the structs in which the labels that match a regular expression have a Val.
func class(pattern string, v api.Val) api.Val {
	set := trial.Strs(pattern)
	return plain(record(api.StructCase{Classes: []api.Class{{Set: set, Val: v}, {Set: lang.Not(set), Val: value.Top()}}}))
}

// limit returns the Val of a bound.
func limit(op string, v api.Val) api.Val {
	d, _ := concrete.Data(v, true)
	s, _ := scalar.Bound(op, d)
	return value.Scalar(s)
}

// either returns the Val of one of several values, without a special default.
func either(l ...api.Value) api.Val {
	v := bottom
	for _, w := range l {
		v = trial.Union(v, w)
	}
	return plain(v)
}

// example is a text and the Val that it denotes.
type example struct {
	text string
	want api.Val
}

// check checks what texts denote.
func check(t *testing.T, l []example) {
	t.Helper()
	for _, c := range l {
		want := trial.Made(c.want)
		if got, f := express.Constant(c.text); !same(got, f.Errno, want, api.OK) || f.At != 0 {
			t.Errorf("%s: %s, %v, want %s", c.text, trial.Show(got), f, trial.Show(want))
		}
	}
}

// TestScalars checks literals, types, interpolated strings and bounds (P32.1, P32.2).
func TestScalars(t *testing.T) {
	check(t, []example{
		{`null`, null()}, {`true`, flag(1)}, {`false`, flag(0)}, {`0`, whole(0)}, {`1.5`, num(15000)}, {`0.0001`, num(1)}, {`100000000000`, num(api.MaxUnits)}, {`""`, str("")}, {`"a\n"`, str("a\n")}, {`_`, value.Top()}, {`_|_`, nothing}, {`(1)`, whole(1)},
		{`null & null`, null()}, {`bool`, booleans}, {`int`, plain(ints)}, {`number`, numbers}, {`string`, texts},
		// Interpolated strings.
		{`"\(1)a\(true)"`, str("1atrue")}, {`[for k, v in {b: 1}: "a\(k)c"][0]`, str("abc")}, {`"\(1.5)\(false)"`, str("1.5false")}, {`"\(-2)"`, str("-2")}, {`[for k, v in {"": 1}: "\(k)"][0]`, str("")}, {`"\(*1 | 2)"`, str("1")}, {`"\(-1)-\([1.5][0])"`, str("-1-1.5")},
		{`"x\(null)"`, nothing}, {`"\([1])"`, nothing}, {`"\({})"`, nothing}, {`"\(_|_)"`, nothing}, {`"\(int)b"`, texts}, {`"\(1 | 2)"`, texts}, {`"\(_)"`, texts}, {`"\([...])"`, texts}, {`"\({a!: 1})"`, texts}, {`"\(int)\(null)"`, nothing}, {`"\(null)\(int)"`, nothing}, {`"\(int)\(_|_)"`, nothing}, {`"\(_|_)\(int)"`, nothing},
		// Bounds.
		{`<5`, limit("<", whole(5))}, {`<=5`, limit("<=", whole(5))}, {`>5`, limit(">", whole(5))}, {`>=5`, limit(">=", whole(5))}, {`!=5`, limit("!=", whole(5))}, {`>-1.5`, limit(">", num(-15000))}, {`<"b"`, limit("<", str("b"))}, {`>="b"`, limit(">=", str("b"))}, {`!=null`, limit("!=", null())}, {`!=true`, limit("!=", flag(1))}, {`!="a"`, limit("!=", str("a"))}, {`<(*1 | 2)`, limit("<", whole(1))}, {`<(1 + 2)`, limit("<", whole(3))},
		{`<true`, nothing}, {`>=null`, nothing}, {`<[1]`, nothing}, {`!=[1]`, nothing}, {`!={}`, nothing}, {`<""`, nothing}, {`<int`, value.Top()}, {`!=_`, value.Top()}, {`>(1 | 2)`, value.Top()}, {`>{a!: 1}`, value.Top()}, {`<_|_`, nothing}, {`!=_|_`, nothing},
		{`=~"a.*"`, value.Scalar(api.Scalars{Strs: trial.Strs("a.*")})}, {`!~"a.*"`, value.Scalar(api.Scalars{Strs: lang.Not(trial.Strs("a.*"))})}, {`=~"[]"`, nothing}, {`!~".*"`, nothing}, {`!~"[]"`, texts}, {`=~"a" & =~"b|a"`, str("a")}, {`=~("a" + "*")`, value.Scalar(api.Scalars{Strs: trial.Strs("a*")})}, {`!~(*"a" | string)`, value.Scalar(api.Scalars{Strs: lang.Not(trial.Strs("a"))})},
		{`=~"("`, nothing}, {`!~"("`, nothing}, {`=~"` + wide + `"`, nothing}, {`!~"` + wide + `"`, nothing}, {`=~5`, nothing}, {`!~null`, nothing}, {`=~["a"]`, nothing}, {`=~string`, value.Top()}, {`!~int`, value.Top()}, {`=~_|_`, nothing}, {`!~_|_`, nothing}, {`=~"` + strings.Repeat("a", 1001) + `"`, nothing},
	})
}

// TestParts checks selections and indices (P32.1, P32.2).
func TestParts(t *testing.T) {
	check(t, []example{
		{`{a: 1}.a`, whole(1)}, {`{a: {b: 2}}.a.b`, whole(2)}, {`{a!: int}.a`, plain(ints)}, {`{"": 1}.""`, whole(1)}, {`{a: *1 | 2}.a`, marked(either(one, two).V, one)}, {`(*{a: 1} | {a: 2}).a`, whole(1)},
		{`{a: 1}.b`, value.Top()}, {`{a?: 1}.a`, value.Top()}, {`{[string]: int}.a`, value.Top()}, {`close({}).a`, value.Top()}, {`_.a`, value.Top()}, {`(1 | {a: 1}).a`, value.Top()}, {`({a: 1} | {a: 2}).a`, value.Top()}, {`([] | {a: 1}).a`, value.Top()},
		{`1.a`, nothing}, {`(1 | 2).a`, nothing}, {`int.a`, nothing}, {`[1].a`, nothing}, {`(1 | [1]).a`, nothing}, {`_|_.a`, nothing}, {`null.a`, nothing},
		{`[1, 2][1]`, whole(2)}, {`[1, ...int][0]`, whole(1)}, {`(*[1] | [2])[0]`, whole(1)}, {`[1, 2][*1 | 0]`, whole(2)}, {`[1, 2][3 - 2]`, whole(2)}, {`[[1, 2], 3][0][1]`, whole(2)},
		{`[1][1]`, value.Top()}, {`[][0]`, value.Top()}, {`[1][100000000000]`, value.Top()}, {`[1, ...int][1]`, value.Top()}, {`_[0]`, value.Top()}, {`(1 | [1])[0]`, value.Top()}, {`([1] | {})[0]`, value.Top()},
		{`[1][-1]`, nothing}, {`[1][0.5]`, nothing}, {`[1][0.0001]`, nothing}, {`{a: 1}[0]`, nothing}, {`1[0]`, nothing}, {`(1 | 2)[0]`, nothing}, {`_|_[0]`, nothing},
		{`{a: 1}["a"]`, whole(1)}, {`{ab: 1}["a" + "b"]`, whole(1)}, {`{"0": 1}["0"]`, whole(1)}, {`{a: 1}["b"]`, value.Top()}, {`_["a"]`, value.Top()}, {`(1 | {a: 1})["a"]`, value.Top()}, {`[1]["a"]`, nothing}, {`1["a"]`, nothing}, {`_|_["a"]`, nothing},
		// An index that is unknown comes first.
		{`[1][int]`, value.Top()}, {`[1][_]`, value.Top()}, {`1[int]`, value.Top()}, {`_|_[int]`, value.Top()}, {`_|_[string]`, value.Top()}, {`[1][[int]]`, value.Top()},
		{`[1][_|_]`, nothing}, {`_[_|_]`, nothing}, {`[1][null]`, nothing}, {`[1][true]`, nothing}, {`[1][[0]]`, nothing}, {`_[{}]`, nothing}, {`_[0.5]`, nothing}, {`_[null]`, nothing},
	})
}

// TestFields checks the declarations of structs other than loops (P32.1, P32.2).
func TestFields(t *testing.T) {
	a1 := field("a", whole(1))
	required := func(label string, v api.Val) api.Field {
		return api.Field{Label: label, Presence: api.Required, Val: v}
	}
	check(t, []example{
		{`{}`, structs}, {`{a: 1}`, with(a1)}, {`{a!: 1}`, with(required("a", whole(1)))}, {`{a?: 1}`, class("a", whole(1))}, {`{"a b": 1, "": 2}`, with(field("", whole(2)), field("a b", whole(1)))}, {`{_h: 1, #d: 2}`, with(field("#d", whole(2)), field("_h", whole(1)))}, {`{a: {b: 1}}`, with(field("a", with(field("b", whole(1)))))}, {`{a: *1 | 2}`, with(field("a", marked(either(one, two).V, one)))},
		{`{a: _}`, with(field("a", value.Top()))}, {`{a!: _}`, with(required("a", value.Top()))}, {`{a?: _}`, structs}, {`{a: _|_}`, nothing}, {`{a!: _|_}`, nothing}, {`{a?: _|_}`, class("a", nothing)}, {`{a: [_|_]}`, nothing}, {`{a?: [_|_]}`, class("a", nothing)},
		{`{a: 1, a: int}`, with(a1)}, {`{a: 1, a: 2}`, nothing}, {`{a?: 1, a: int}`, with(a1)}, {`{a!: 1, a?: int}`, with(required("a", whole(1)))}, {`{a?: 1, a?: 2}`, class("a", nothing)}, {`{a?: 1, a?: 2, a: _}`, nothing}, {`{a?: 1, a!: 2}`, nothing}, {`{a: *1 | 2, a: 2}`, with(field("a", marked(two, bottom)))}, {`{a: 1, b?: 2, c!: 3}`, plain(record(api.StructCase{Fields: []api.Field{a1, required("c", whole(3))}, Classes: []api.Class{{Set: trial.Strs("b"), Val: whole(2)}, trial.Others(value.Top(), "a", "b", "c")}}))},
		// Patterns.
		{`{[=~"a.*"]: int}`, class("a.*", plain(ints))}, {`{[string]: int}`, plain(record(trial.Fields(plain(ints))))}, {`{[=~"[]"]: int}`, structs}, {`{[=~"[]"]: _|_}`, structs}, {`{[=~"a"]: _}`, structs}, {`{[string]: _|_}`, plain(record(shut()))}, {`{[=~"a"]: _|_}`, class("a", nothing)}, {`{[=~"a"]: int, a: 1}`, with(a1)}, {`{[=~"a"]: 2, a: 1}`, nothing}, {`{[=~"b"]: 2, a: 1}`, plain(record(api.StructCase{Fields: []api.Field{a1}, Classes: []api.Class{{Set: trial.Strs("b"), Val: whole(2)}, trial.Others(value.Top(), "a", "b")}}))}, {`{[=~"a"]: 2, a?: 1}`, class("a", nothing)}, {`{[=~"a|b"]: 1, [=~"b|c"]: int}`, plain(record(api.StructCase{Classes: []api.Class{{Set: trial.Strs("a|b"), Val: whole(1)}, {Set: trial.Strs("c"), Val: plain(ints)}, trial.Others(value.Top(), "a", "b", "c")}}))}, {`{[=~"a"]: *1 | 2}`, class("a", marked(either(one, two).V, one))},
		{`{[=~"` + wide + `"]: _}`, nothing}, {`{[=~"` + wide + `"]: int, a: 1}`, nothing},
		// Embedded values.
		{`{{a: 1}, {b: 2}}`, with(a1, field("b", whole(2)))}, {`{1}`, nothing}, {`{_}`, structs}, {`{_|_}`, nothing}, {`{[]}`, nothing}, {`{{a: 1} | {b: 2}}`, either(with(a1).V, with(field("b", whole(2))).V)}, {`{1 | {a: 1}}`, with(a1)}, {`{*{a: 1} | {a: 2}}`, marked(either(with(a1).V, with(field("a", whole(2))).V).V, with(a1).V)}, {`{*{a: 1} | {a: 2}, a: 2}`, marked(with(field("a", whole(2))).V, bottom)}, {`{close({a: 1}), b: 2}`, nothing}, {`{close({a: 1}), b?: 2}`, plain(record(shut(a1)))},
		// Lets and "...".
		{`{...}`, structs}, {`{a: 1, ...}`, with(a1)}, {`{let x = 1}`, structs}, {`{let x = _|_}`, structs}, {`{let x = 1, a: 1}`, with(a1)}, {`{let x = 5, {close({})}}`, plain(record(shut()))},
		// Conditions.
		{`{if true {a: 1}}`, with(a1)}, {`{if false {a: 1}}`, structs}, {`{if bool {a: 1}}`, structs}, {`{if true {}}`, structs}, {`{if *true | false {a: 1}}`, with(a1)}, {`{if 1 < 2 {a: 1}, if 1 > 2 {a: 2}}`, with(a1)}, {`{if true {5}}`, nothing}, {`{if false {5}}`, structs}, {`{if _ {5}}`, structs}, {`{if int {a: 1}}`, structs}, {`{if true {a: _|_}}`, nothing}, {`{if true {if true {a: 1}}}`, with(a1)}, {`{if true {_}}`, structs}, {`1 & {if true {_}}`, nothing},
		{`{if 1 {}}`, nothing}, {`{if _|_ {}}`, nothing}, {`{if null {}}`, nothing}, {`{if "true" {}}`, nothing}, {`{if [true] {}}`, nothing}, {`{if {} {}}`, nothing}, {`{if 1 | 2 {}}`, structs}, {`{if {a!: 1} {a: 1}}`, structs},
		// Labels that are computed.
		{`{("a"): 1}`, with(a1)}, {`{("a" + "b"): 1}`, with(field("ab", whole(1)))}, {`{(""): 1}`, with(field("", whole(1)))}, {`{(*"a" | "b"): 1}`, with(a1)}, {`{("a"): *1 | 2}`, with(field("a", marked(either(one, two).V, one)))}, {`{("a"): _|_}`, nothing}, {`{("a"): 1, a: int}`, with(a1)}, {`{("a"): 1, a: 2}`, nothing}, {`{("\xff"): 1}`, with(field("\xff", whole(1)))},
		{`{(string): 1}`, structs}, {`{(string): _|_}`, structs}, {`{(_): 1}`, structs}, {`{(int): 1}`, structs}, {`{({a!: 1}): 1}`, structs}, {`{(1): 1}`, nothing}, {`{(null): 1}`, nothing}, {`{(["a"]): 1}`, nothing}, {`{(_|_): 1}`, nothing}, {`{(_|_): _}`, nothing}, {`{(true): 1}`, nothing},
		// Structs in other positions.
		{`[{a: 1}][0]`, with(a1)}, {`1 | {a: 1}`, either(one, with(a1).V)}, {`{a: 1} & {b: 2}`, with(a1, field("b", whole(2)))}, {`{a: 1} == {a: 1}`, flag(1)},
	})
}

// TestLoops checks loops in structs and in lists (P32.1, P32.2).
func TestLoops(t *testing.T) {
	a1 := field("a", whole(1))
	check(t, []example{
		{`{for k, v in {a: 1, b: 2} {(k): v}}`, with(a1, field("b", whole(2)))}, {`{for k, v in [5, 6] {("x\(k)"): v}}`, with(field("x0", whole(5)), field("x1", whole(6)))}, {`{for k, v in {a: 1} {("\(k)b"): v + 1}}`, with(field("ab", whole(2)))}, {`{for k, v in [1, 2] {a: v}}`, nothing}, {`{for k, v in [1, int] {a: v}}`, with(a1)}, {`{for k, v in [1, 2] {v}}`, nothing}, {`{for k, v in [{a: 1}, {b: 2}] {v}}`, with(a1, field("b", whole(2)))}, {`{for k, v in [1] {}}`, structs},
		{`{for k, v in {} {a: 1}}`, structs}, {`{for k, v in [] {_|_}}`, structs}, {`{for k, v in {a?: 1} {_|_}}`, structs}, {`{for k, v in close({}) {_|_}}`, structs}, {`{for k, v in {[string]: int} {_|_}}`, structs},
		{`{for k, v in {a!: 1} {(k): v}}`, with(a1)}, {`{for k, v in {_h: 1, #d: 2} {(k): v}}`, with(field("#d", whole(2)), field("_h", whole(1)))}, {`{for k, v in {a: *1 | 2} {(k): v}}`, with(field("a", marked(either(one, two).V, one)))}, {`{for k, v in *{a: 1} | {b: 1} {(k): v}}`, with(a1)}, {`{for k, v in *[1] | 5 {("x\(k)"): v}}`, with(field("x0", whole(1)))}, {`{for k, v in (*[1] | [2]) & [2] {("x\(k)"): v}}`, with(field("x0", marked(two, two)))}, {`{for k, v in {a: {b: 1}} {for k, v in v {(k): v}}}`, with(field("b", whole(1)))}, {`{for k, v in {a: [1]} {for i, v in v {(k): v}}}`, with(a1)}, {`{for k, v in [true, false] {if v {a: 1}}}`, with(a1)}, {`{for k, v in [bool] {if v {a: 1}}}`, structs}, {`{for k, v in [1] {if v {a: 1}}}`, nothing},
		// Sources that are open, and those that are wrong.
		{`{for k, v in _ {_|_}}`, structs}, {`{for k, v in [...int] {_|_}}`, structs}, {`{for k, v in [1, ...] {_|_}}`, structs}, {`{for k, v in 1 | [1] {_|_}}`, structs}, {`{for k, v in {a: 1} | {b: 1} {_|_}}`, structs}, {`{for k, v in [1] | {} {_|_}}`, structs}, {`{for k, v in [1] | [1, 1] {_|_}}`, structs}, {`{for k, v in {} | null {_|_}}`, structs}, {`{for k, v in *_ | {} {_|_}}`, structs},
		{`{for k, v in 1 {}}`, nothing}, {`{for k, v in int {}}`, nothing}, {`{for k, v in 1 | "a" {}}`, nothing}, {`{for k, v in null {}}`, nothing}, {`{for k, v in _|_ {}}`, nothing}, {`{for k, v in *1 | [1] {}}`, nothing}, {`{for k, v in "abc" {}}`, nothing},
		// Lists.
		{`[]`, tuple()}, {`[1, int]`, tuple(whole(1), plain(ints))}, {`[1, ...int]`, plain(list(longer(ints, one)))}, {`[...]`, lists}, {`[..._]`, lists}, {`[..._|_]`, tuple()}, {`[1, ..._|_]`, tuple(whole(1))}, {`[_|_]`, nothing}, {`[1, _|_]`, nothing}, {`[_|_, ...int]`, nothing}, {`[[_|_]]`, nothing}, {`[...[_|_]]`, tuple()}, {`[*1 | 2, ...*1 | 2]`, plain(list(api.ListCase{Items: []api.Val{marked(either(one, two).V, one)}, Rest: []api.Val{marked(either(one, two).V, one)}}))}, {`[_, {}]`, tuple(value.Top(), structs)},
		{`[for k, v in [5, 6]: v]`, tuple(whole(5), whole(6))}, {`[for k, v in [5, 6]: k]`, tuple(whole(0), whole(1))}, {`[for k, v in {b: 1, a: 2}: k]`, tuple(str("a"), str("b"))}, {`[for k, v in {b: 1, a: 2}: [k, v]]`, tuple(tuple(str("a"), whole(2)), tuple(str("b"), whole(1)))}, {`[0, for k, v in [1]: v, 2, ...int]`, plain(list(longer(ints, trial.Number(0), one, two)))}, {`[for k, v in []: _|_]`, tuple()}, {`[for k, v in [1]: _|_]`, nothing}, {`[for k, v in [[1], [2]]: [for i, w in v: w + k]]`, tuple(tuple(whole(1)), tuple(whole(3)))}, {`[for k, v in [1]: v, for k, v in [2]: v]`, tuple(whole(1), whole(2))}, {`[for k, v in {a!: 1}: v]`, tuple(whole(1))},
		{`[for k, v in [1, 2, 3] if v > 1: v]`, tuple(whole(2), whole(3))}, {`[for k, v in [1, 2] if k == 0: v]`, tuple(whole(1))}, {`[for k, v in [1] if false: _|_]`, tuple()}, {`[for k, v in [1] if *false | true: v]`, tuple()}, {`[for k, v in [] if 1: v]`, tuple()}, {`[for k, v in [] if _|_: v]`, tuple()},
		{`[for k, v in [1] if bool: v]`, lists}, {`[for k, v in [1] if bool: _|_]`, lists}, {`[for k, v in [true, bool] if v: 1]`, lists}, {`[for k, v in [1] if 1: v]`, nothing}, {`[for k, v in [1] if _|_: v]`, nothing}, {`[for k, v in [1] if null: v]`, nothing}, {`[for k, v in [true, 1] if v: 1]`, nothing}, {`[for k, v in [bool, 1] if v: 1]`, nothing}, {`[for k, v in [1, bool] if v: 1]`, nothing}, {`[for k, v in [1] if int: v]`, lists},
		{`[for k, v in _: v]`, lists}, {`[1, for k, v in [...]: v]`, lists}, {`[for k, v in 1 | []: v]`, lists}, {`[for k, v in {a: 1} | {a: 2}: v, ...int]`, lists}, {`[_|_, for k, v in _: v]`, lists}, {`[for k, v in [1] if bool: v, _|_]`, lists}, {`[for k, v in _ if 1: v]`, lists},
		{`[for k, v in 1: v]`, nothing}, {`[for k, v in _|_: v]`, nothing}, {`[for k, v in 1 | 2: v]`, nothing}, {`[for k, v in 1: v, for k, v in _: v]`, nothing}, {`[for k, v in _: v, for k, v in null: v]`, nothing}, {`[for k, v in _: v, for k, v in [1] if 5: v]`, nothing}, {`[for k, v in "": v]`, nothing},
	})
}

// TestOperators checks conjunctions, disjunctions, operators and calls (P32.1, P32.2).
func TestOperators(t *testing.T) {
	both := either(one, two).V
	three := either(both, trial.Number(3)).V
	check(t, []example{
		{`int & >5 & <7`, whole(6)}, {`{a: 1} & {b: 2}`, with(field("a", whole(1)), field("b", whole(2)))}, // examples 1 and 2
		{`1 & int`, whole(1)}, {`1 & 2`, nothing}, {`_ & 1`, whole(1)}, {`_|_ & _`, nothing}, {`1 & {}`, nothing}, {`(*1 | 2) & 2`, marked(two, bottom)}, {`(*1 | 2) & (1 | *2)`, marked(both, bottom)}, {`(*1 | 2) & int`, marked(both, one)}, {`[int, 1] & [2, ...]`, tuple(whole(2), whole(1))},
		{`1 | 2`, either(one, two)}, {`*1 | 2`, marked(both, one)}, {`1 | *2`, marked(both, two)}, {`*1 | *2 | 3`, marked(three, both)}, {`1 | 1`, whole(1)}, {`*1 | *1`, whole(1)}, {`1 | int`, plain(ints)}, {`_ | 1`, value.Top()}, {`_ | *1`, marked(top, one)}, {`*_ | 1`, value.Top()}, {`*_|_ | 1`, marked(one, bottom)}, {`_|_ | 1`, whole(1)}, {`_|_ | _|_`, nothing}, {`(*1 | 2) | 3`, marked(three, either(one, trial.Number(3)).V)}, {`*(*1 | 2) | 3`, marked(three, one)}, {`(*1 | 2) | *3`, marked(three, trial.Number(3))}, {`{a: 1} | {a: int}`, with(field("a", plain(ints)))},
		{`1 + 2`, whole(3)}, {`1 - 2`, whole(-1)}, {`2 * 1.5`, whole(3)}, {`3 / 2`, num(15000)}, {`7 % 4`, whole(3)}, {`-5`, whole(-5)}, {`- -5`, whole(5)}, {`"a" + "b"`, str("ab")}, {`[1] + [2]`, tuple(whole(1), whole(2))}, {`[] + []`, tuple()}, {`!true`, flag(0)}, {`!!true`, flag(1)}, {`true && false`, flag(0)}, {`true || false`, flag(1)}, {`1 < 2`, flag(1)}, {`2 <= 1`, flag(0)}, {`"b" > "a"`, flag(1)}, {`"a" >= "b"`, flag(0)}, {`1 == 1`, flag(1)}, {`1 != 1`, flag(0)}, {`1 == "a"`, flag(0)}, {`null == null`, flag(1)}, {`[1] == [1, 2]`, flag(0)}, {`{a: 1} == {a: 1, b?: 2}`, flag(1)}, {`{_h: 1} == {}`, flag(0)}, {`(*1 | 2) + 1`, whole(2)}, {`(*1 | 2) == 1`, flag(1)}, {`[{a: 1}] + []`, tuple(exactly(api.Data{Kind: api.Struct, Members: []api.Member{{Label: "a", Data: api.Data{Kind: api.Number, Num: api.Unit}}}}))},
		{`1 / 3`, nothing}, {`1 / 0`, nothing}, {`1 % 0`, nothing}, {`100000000000 + 1`, nothing}, {`1 + null`, nothing}, {`1 + "a"`, nothing}, {`"a" - "a"`, nothing}, {`{} + {}`, nothing}, {`true + true`, nothing}, {`!1`, nothing}, {`-"a"`, nothing}, {`-true`, nothing}, {`1 && true`, nothing}, {`null < null`, nothing}, {`1 < "a"`, nothing}, {`[1] < [2]`, nothing}, {`-100000000000 - 1`, nothing},
		{`1 + int`, value.Top()}, {`int + 1`, value.Top()}, {`"a" + int`, value.Top()}, {`1 - int`, numbers}, {`int * 2`, numbers}, {`int / 2`, numbers}, {`2 % int`, numbers}, {`-int`, numbers}, {`-_`, numbers}, {`null - int`, numbers}, {`!bool`, booleans}, {`!_`, booleans}, {`true || bool`, booleans}, {`bool && false`, booleans}, {`1 == int`, booleans}, {`int != 1`, booleans}, {`"a" < int`, booleans}, {`int <= 1`, booleans}, {`int > 1`, booleans}, {`1 >= int`, booleans}, {`(1 | 2) + 1`, value.Top()}, {`{a!: 1} == {}`, booleans}, {`[...] + [1]`, value.Top()}, {`null && bool`, booleans},
		{`_|_ + int`, nothing}, {`int + _|_`, nothing}, {`_|_ - int`, nothing}, {`int == _|_`, nothing}, {`_|_ == _|_`, nothing}, {`!_|_`, nothing}, {`-_|_`, nothing}, {`bool || _|_`, nothing}, {`_|_ && false`, nothing},
		{`len("abc")`, whole(3)}, {`len([1, 2])`, whole(2)}, {`sum([1, 2])`, whole(3)}, {`concat(["a", "b"], "-")`, str("a-b")}, {`range(2)`, tuple(whole(0), whole(1))}, {`and([int, 1])`, whole(1)}, {`and([])`, value.Top()}, {`or([1, 2])`, either(one, two)}, {`or([])`, nothing}, {`or([int, 1])`, plain(ints)}, {`close({a: 1})`, plain(record(shut(field("a", whole(1)))))}, {`close(_)`, value.Top()}, {`keys({b: 1, _a: 2})`, tuple(str("_a"), str("b"))}, {`len(*"a" | string)`, whole(1)},
		{`f(1)`, nothing}, {`Len("a")`, nothing}, {`len()`, nothing}, {`len("a", "b")`, nothing}, {`concat(["a"])`, nothing}, {`len(1)`, nothing}, {`max([])`, nothing}, {`range(-1)`, nothing}, {`range(101)`, nothing}, {`len(_|_)`, nothing}, {`and(_|_)`, nothing}, {`and(1)`, nothing}, {`sum(["a"])`, nothing}, {`f(int)`, nothing},
		{`len(int)`, value.Top()}, {`len(_)`, value.Top()}, {`len({a!: 1})`, value.Top()}, {`len([...])`, value.Top()}, {`sum([int])`, value.Top()}, {`and(_)`, value.Top()}, {`and([...int])`, value.Top()}, {`or([1] | [2])`, value.Top()}, {`len(1 | 2)`, value.Top()},
	})
}

// TestConstant checks the faults of Constant (P32.2), which come from the parser, or are those of Eval at 0.
func TestConstant(t *testing.T) {
	for _, s := range []string{"", "1 +", "*1", "{a: 1", "a: 1", `"a`, "1 // one", "[for k, k in []: k]", "{[=~\"(\"]: 1}", "x + ", "}", strings.Repeat("[", 17) + strings.Repeat("]", 17), strings.Repeat(" ", api.MaxText) + "1", "\x00", "package p"} {
		_, f := parser.Expr(s)
		if got, g := express.Constant(s); f.Errno == api.OK || g != f || !same(got, 0, nothing, 0) {
			t.Errorf("%.50q: %v, want %v", s, g, f)
		}
	}
	for s, want := range map[string]api.Errno{
		"x": api.ErrName, "1 + x": api.ErrName, "{a: 1, b: a}": api.ErrName, "{let x = 1, a: x}": api.ErrName, "[for k, v in [1]: w]": api.ErrName, "[for k, v in k: 1]": api.ErrName, "[for k, v in []: x]": api.ErrName, "{if false {a: x}}": api.ErrName, `"\(x)"`: api.ErrName, "len(x)": api.ErrName, "{for k, v in [1] {a: v}, b: v}": api.ErrName,
		"[for k, v in [[[[[[[[[1]]]]]]]]]: [[[[[[[[[v]]]]]]]]]": api.ErrSyntax, "[for k, v in [[[[[[[[[1]]]]]]]]]: [[[[[[[[[v]]]]]]]]]]": api.ErrDepth,
	} {
		got, f := express.Constant(s)
		if f.Errno != want || f.At != 0 && want != api.ErrSyntax || !same(got, 0, nothing, 0) {
			t.Errorf("%s: %s, %v, want %d", s, trial.Show(got), f, want)
		}
	}
	deep := strings.Repeat("[", 16) + strings.Repeat("]", 16)
	got, f := express.Constant(deep)
	if f.Errno != api.OK || !refine.Valid(got) || value.Depth(got.V) != api.MaxDepth {
		t.Errorf("16 levels: %v", f)
	}
	if got, f := express.Constant(`"` + strings.Repeat("a", 60000) + `"`); f.Errno != api.OK || !automaton.Same(got.V.Scalars.Strs, automaton.Word(strings.Repeat("a", 60000))) {
		t.Errorf("a long string: %v", f)
	}
	if got, f := express.Constant("1\n"); !same(got, f.Errno, whole(1), api.OK) {
		t.Errorf("a line: %v", f)
	}
}
