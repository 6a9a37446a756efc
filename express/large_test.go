package express_test

import (
	"cmp"
	"slices"
	"strconv"
	"strings"
	"testing"

	"configlang/api"
	"configlang/express"
	"configlang/lang"
	"configlang/parts"
	"configlang/trial"
	"configlang/value"
)

// decl returns the declaration of a field with a number.
func decl(label string, presence int, n int) api.Decl {
	return api.Decl{Kind: api.DcField, Label: label, Presence: presence, Subs: []api.Expr{{Kind: api.ExNumber, Num: int64(n) * api.Unit}}}
}

// label returns the label of a number; those of greater numbers are greater.
func label(n int) string {
	return "a" + strconv.Itoa(100000+n)
}

// TestManyFields checks structs with many fields, in descending order (P32.1).
func TestManyFields(t *testing.T) {
	const n = 5000
	var decls, options []api.Decl
	var c api.StructCase
	var labels []string
	for i := n - 1; i >= 0; i-- {
		decls = append(decls, decl(label(i), 1+i%2, i))
	}
	for i := range n {
		c.Fields = append(c.Fields, api.Field{Label: label(i), Presence: 1 + i%2, Val: whole(int64(i))})
		labels = append(labels, label(i))
		options = append(options, decl(label(i), api.Optional, i%10))
	}
	c.Classes = []api.Class{{Set: lang.Not(parts.Strings(labels)), Val: value.Top()}}
	if got, e := express.Decls(decls, nil); !same(got, e, plain(record(c)), api.OK) {
		t.Errorf("%d fields: %d", n, e)
	}
	// Optional fields of ten classes.
	classes := c.Classes
	for i := range 10 {
		var some []string
		for j := i; j < n; j += 10 {
			some = append(some, label(j))
		}
		classes = append(classes, api.Class{Set: parts.Strings(some), Val: whole(int64(i))})
	}
	if got, e := express.Decls(options, nil); !same(got, e, plain(record(api.StructCase{Classes: classes})), api.OK) {
		t.Errorf("%d optional fields: %d", n, e)
	}
	if got, e := express.Decls(append(decls, decl(label(0), api.Present, n)), nil); !same(got, e, value.Bottom(), api.OK) {
		t.Errorf("a conflict: %d", e)
	}
}

// TestManyClasses checks a struct with many optional fields, each with a value of its own (P32.1).
func TestManyClasses(t *testing.T) {
	const n = 2000
	var decls []api.Decl
	var labels []string
	var c api.StructCase
	for i := range n {
		decls = append(decls, decl(label(i), api.Optional, i))
		labels = append(labels, label(i))
		c.Classes = append(c.Classes, api.Class{Set: trial.Strs(label(i)), Val: whole(int64(i))})
	}
	c.Classes = append([]api.Class{{Set: lang.Not(parts.Strings(labels)), Val: value.Top()}}, c.Classes...)
	if got, e := express.Decls(decls, nil); !same(got, e, plain(record(c)), api.OK) {
		t.Errorf("%d classes: %d", n, e)
	}
}

// TestManyItems checks long lists, and loops with many elements (P32.1).
func TestManyItems(t *testing.T) {
	const n = 20000
	var l []api.Expr
	var items []api.Val
	for i := range n {
		l = append(l, api.Expr{Kind: api.ExNumber, Num: int64(i)})
		items = append(items, num(int64(i)))
	}
	if got, e := express.Eval(api.Expr{Kind: api.ExList, Subs: l}, nil); !same(got, e, tuple(items...), api.OK) {
		t.Errorf("%d items: %d", n, e)
	}
	var squares []api.Val
	for i := range 100 {
		for j := range 100 {
			squares = append(squares, whole(int64(i*j)))
		}
	}
	got, f := express.Constant(`[for a, b in range(100): [for c, d in range(100): b * d]]`)
	if f.Errno != api.OK || len(got.V.Lists[0].Items) != 100 || !slices.EqualFunc(innermost(got), squares, parts.SameVal) {
		t.Errorf("squares: %v", f)
	}
	got, f = express.Constant(`{for a, b in range(60) { for c, d in range(60) { ("x\(b)y\(d)"): b - d }}}`)
	if f.Errno != api.OK || len(got.V.Structs[0].Fields) != 3600 || got.V.Structs[0].Fields[3599].Label != "x9y9" {
		t.Errorf("fields of loops: %v", f)
	}
	got, f = express.Constant(`[for a, b in range(100) if b % 2 == 0: b][49]`)
	if !same(got, f.Errno, whole(98), api.OK) {
		t.Errorf("an even number: %v", f)
	}
}

// innermost returns the items of the items of a list.
func innermost(v api.Val) []api.Val {
	var l []api.Val
	for _, w := range v.V.Lists[0].Items {
		l = append(l, w.V.Lists[0].Items...)
	}
	return l
}

// TestManyAlternatives checks disjunctions with many alternatives, and conjunctions of several ones, which leave few of them (P32.1).
func TestManyAlternatives(t *testing.T) {
	const n = 10000
	e := api.Expr{Kind: api.ExOr}
	for i := range n {
		e.Subs = append(e.Subs, api.Expr{Kind: api.ExNumber, Num: int64(i+1) * api.Unit})
	}
	want := plain(api.Value{Scalars: api.Scalars{Nums: api.Nums{Ints: []api.Span{{Lo: 1, Hi: n}}}}})
	if got, errno := express.Eval(e, nil); !same(got, errno, want, api.OK) {
		t.Errorf("%d alternatives: %s, %d", n, trial.Show(got), errno)
	}
	// Of the alternatives in front, the fields behind them leave one each.
	var b strings.Builder
	for i := range 14 {
		b.WriteString("{a" + strconv.Itoa(i) + ": 1} | {b" + strconv.Itoa(i) + ": 1}, ")
	}
	var fields []api.Field
	for i := range 14 {
		b.WriteString("b" + strconv.Itoa(i) + ": 2, ")
		fields = append(fields, field("a"+strconv.Itoa(i), whole(1)), field("b"+strconv.Itoa(i), whole(2)))
	}
	slices.SortFunc(fields, func(f, g api.Field) int { return cmp.Compare(f.Label, g.Label) })
	if got, f := express.Constant("{" + b.String() + "}"); !same(got, f.Errno, trial.Made(with(fields...)), api.OK) {
		t.Errorf("alternatives and fields: %s, %v", trial.Show(got), f)
	}
}

// TestManyBindings checks many names with many bindings (P32.1).
func TestManyBindings(t *testing.T) {
	var env []api.Binding
	var l []api.Expr
	var items []api.Val
	for i := range 1000 {
		env = append(env, api.Binding{Name: label(i / 2), Depth: i % 2, Val: whole(int64(i))})
	}
	for i := range 4000 {
		l = append(l, api.Expr{Kind: api.ExRef, Text: label(i / 8), Names: [2]string{"field", ""}, Num: int64(i / 4 % 2)})
		items = append(items, whole(int64(i/4)))
	}
	if got, e := express.Eval(api.Expr{Kind: api.ExList, Subs: l}, env); !same(got, e, tuple(items...), api.OK) {
		t.Errorf("many names: %d", e)
	}
	// A string of many parts.
	interp := api.Expr{Kind: api.ExInterp}
	for range 3000 {
		interp.Subs = append(interp.Subs, api.Expr{Kind: api.ExString, Text: strings.Repeat("ab", 20)})
	}
	if got, e := express.Eval(interp, nil); !same(got, e, str(strings.Repeat("ab", 60000)), api.OK) {
		t.Errorf("a long string: %d", e)
	}
}
