package subsume_test

import (
	"testing"

	"configlang/api"
	"configlang/data"
	"configlang/disjoin"
	"configlang/instance"
	"configlang/lang"
	"configlang/parts"
	"configlang/refine"
	"configlang/scalar"
	"configlang/subsume"
	"configlang/trial"
	"configlang/unify"
	"configlang/value"
)

// Values of the tests below.
var (
	one      = trial.Number(1)
	two      = trial.Number(2)
	ints     = trial.Kind("int")
	bools    = trial.Kind("bool")
	null     = trial.Kind("null")
	top      = value.Top().V
	bottom   = api.Value{}
	list     = trial.List
	record   = trial.Record
	closed   = trial.Closed
	longer   = trial.Longer
	open     = trial.Open
	shut     = trial.Shut
	present  = trial.Present
	required = trial.Required
	plain    = value.Plain
	marked   = trial.Marked
)

// shown returns a text of a value.
func shown(v api.Value) string {
	return trial.Show(plain(v))
}

// includes returns whether a includes b, and checks Witness (P21.1 to P21.3).
func includes(t *testing.T, a, b api.Value) bool {
	t.Helper()
	u, v := parts.Copy(a), parts.Copy(b)
	got, e := subsume.Includes(a, b)
	d, found, e2 := subsume.Witness(a, b)
	if e != api.OK || e2 != api.OK || got == found {
		t.Fatalf("Includes(%s, %s): %v, %d; Witness: %v, %d", shown(a), shown(b), got, e, found, e2)
	}
	if found && (!instance.Has(b, d) || instance.Has(a, d) || !trial.Has(b, d) || trial.Has(a, d)) || !found && !isZero(d) {
		t.Fatalf("Witness(%s, %s): %v", shown(a), shown(b), d)
	}
	if !parts.Same(a, u) || !parts.Same(b, v) {
		t.Fatalf("%s or %s is changed", shown(u), shown(v))
	}
	return got
}

// isZero reports whether data is the zero Data.
func isZero(d api.Data) bool {
	return d.Kind == 0 && d.Num == 0 && d.Str == "" && len(d.Items)+len(d.Members) == 0
}

// same checks Same, and returns its result (P21.1).
func same(t *testing.T, a, b api.Value) bool {
	t.Helper()
	got, e := subsume.Same(a, b)
	if want := includes(t, a, b) && includes(t, b, a); e != api.OK || got != want {
		t.Fatalf("Same(%s, %s): %v, %d", shown(a), shown(b), got, e)
	}
	return got
}

// compared returns whether a includes b, and compares that with the definition, unless this takes too long.
func compared(t *testing.T, a, b api.Value) (got, known bool) {
	t.Helper()
	got = includes(t, a, b)
	found, known := outside(b, a)
	if known && found == got {
		t.Fatalf("Includes(%s, %s): %v", shown(a), shown(b), got)
	}
	return got, known
}

// TestIncludes compares Includes with the definition, for values that are near to each other (P21.1, P21.2).
func TestIncludes(t *testing.T) {
	x := trial.Random(211)
	above, apart, no := 0, 0, 0
	for range 4000 {
		a, b := trial.Near(&x)
		got, known := compared(t, a.V, b.V)
		switch below := refine.Below(b.V, a.V); {
		case !known:
		case below && !got:
			t.Fatalf("%s does not include %s, which is below it", trial.Show(a), trial.Show(b))
		case below:
			above++
		case got:
			apart++
		default:
			no++
		}
	}
	if above < 1000 || apart < 5 || no < 500 {
		t.Errorf("%d are below, %d are not, but included, %d are not included", above, apart, no)
	}
}

// union returns the union of some values.
func union(l ...api.Value) api.Value {
	all := bottom
	for _, v := range l {
		all = trial.Union(all, v)
	}
	return all
}

// TestPieces checks values that include another one together, though it need not be below them, and such values without a part (P21.1, P21.2).
func TestPieces(t *testing.T) {
	x := trial.Random(212)
	apart, still, less, long := 0, 0, 0, 0
	for range 3000 {
		v := trial.Valid(&x, 1+x.Below(3)).V
		l := pieces(&x, v, 2+x.Below(5))
		all := union(l...)
		if !same(t, all, v) {
			t.Fatalf("%s and its pieces, %s", shown(v), shown(all))
		}
		if !refine.Below(v, all) {
			apart++
		}
		k := x.Below(len(l))
		l[k] = trial.Pick(&x, bottom, made(trial.Lower(&x, l[k])))
		switch got, known := compared(t, union(l...), v); {
		case !known:
			long++
		case got:
			still++
		default:
			less++
		}
	}
	if apart < 700 || still < 700 || less < 700 || long > 100 {
		t.Errorf("%d are not below their pieces; without a part %d still include, %d do not, %d take too long", apart, still, less, long)
	}
}

// TestLaws checks that Includes is reflexive and transitive, and how it agrees with bounds (P21.3).
func TestLaws(t *testing.T) {
	x := trial.Random(213)
	chains, equal := 0, 0
	for range 1500 {
		p, q := trial.Near(&x)
		a, b := p.V, q.V
		c := union(pieces(&x, trial.Pick(&x, a, b), 2+x.Below(3))...)
		low, e := unify.Meet(a, b)
		high, f := disjoin.Union(a, b)
		if e != api.OK || f != api.OK {
			t.Fatalf("Meet: %d, Union: %d", e, f)
		}
		if !same(t, a, a) || !includes(t, a, low) || !includes(t, b, low) || !includes(t, high, a) || !includes(t, high, b) {
			t.Fatalf("%s, %s: %s, %s", shown(a), shown(b), shown(low), shown(high))
		}
		if includes(t, a, b) != same(t, high, a) || includes(t, a, b) != same(t, low, b) {
			t.Fatalf("%s, %s: %s, %s", shown(a), shown(b), shown(low), shown(high))
		}
		l := []api.Value{a, b, c, low, trial.Made(trial.LowerVal(&x, p)).V}
		var above [5][5]bool
		for i, u := range l {
			for j, v := range l {
				above[i][j] = includes(t, u, v)
			}
		}
		for i, u := range l {
			for j, v := range l {
				for k, w := range l {
					if above[i][j] && above[j][k] && !above[i][k] {
						t.Fatalf("%s, %s, %s", shown(u), shown(v), shown(w))
					}
					if above[i][j] && above[j][k] {
						chains++
					}
				}
				if above[i][j] && above[j][i] && !parts.Same(u, v) {
					equal++
				}
			}
		}
	}
	if chains < 20000 || equal < 200 {
		t.Errorf("%d chains, %d values with the same instances", chains, equal)
	}
}

// kinds returns the parts of everything: its scalars, lists and structs.
func kinds(lists api.Value, structs api.Value) api.Value {
	return made(api.Value{Scalars: scalar.All(), Lists: lists.Lists, Structs: structs.Structs})
}

// span returns the value of the whole numbers from lo to hi.
func span(lo, hi int) api.Value {
	return api.Value{Scalars: api.Scalars{Nums: api.Nums{Ints: []api.Span{{Lo: int64(lo), Hi: int64(hi)}}}}}
}

// but returns the value of the whole numbers from 1 to n without one of them.
func but(n, without int) api.Value {
	return api.Value{Scalars: scalar.Minus(span(1, n).Scalars, trial.Number(int64(without)).Scalars)}
}

// among returns the struct case without fields in which the labels of a set have a value, and all others another one.
func among(set string, v, others api.Value) api.StructCase {
	l := trial.Strs(set)
	return api.StructCase{Classes: []api.Class{{Set: l, Val: plain(v)}, {Set: lang.Not(l), Val: plain(others)}}}
}

// example is two values, and whether the first one includes the second one.
type example struct {
	a, b api.Value
	want bool
}

// checkExamples checks Includes for some values.
func checkExamples(t *testing.T, l []example) {
	t.Helper()
	for i, c := range l {
		a, b := made(c.a), made(c.b)
		if got, known := compared(t, a, b); got != c.want {
			t.Errorf("case %d: Includes(%s, %s): %v (compared: %v)", i, shown(a), shown(b), got, known)
		}
	}
}

// TestKinds checks everything, bottom, scalars, and what is written out (P21.1).
func TestKinds(t *testing.T) {
	anyList, anyStruct, number := list(longer(top)), record(open()), trial.Kind("number")
	a, b := record(open(present("a", top))), among("a", bottom, top)
	checkExamples(t, []example{
		{number, ints, true}, {ints, number, false}, // example 2
		{top, top, true}, {top, bottom, true}, {bottom, bottom, true}, {bottom, top, false}, {bottom, one, false}, {bottom, list(closed()), false}, {bottom, record(shut()), false}, {top, anyStruct, true}, {one, bottom, true},
		{ints, one, true}, {one, ints, false}, {one, two, false}, {null, one, false}, {ints, anyList, false}, {anyList, anyStruct, false}, {anyStruct, anyList, false}, {number, trial.Kind("string"), false},
		// Everything in parts.
		{kinds(anyList, union(a, record(b))), top, true}, {kinds(list(closed(), longer(top, top)), anyStruct), top, true}, {kinds(list(longer(top, top)), anyStruct), top, false}, {kinds(anyList, a), top, false},
		{kinds(list(closed(), closed(top), longer(top, top, top)), union(a, record(b))), top, true}, {kinds(list(closed(), longer(top, top, top)), anyStruct), top, false},
		{kinds(list(closed(), longer(top, ints), longer(top, kinds(anyList, anyStruct))), anyStruct), top, true}, {kinds(list(closed(), longer(top, ints), longer(top, kinds(list(closed()), anyStruct))), anyStruct), top, false},
	})
	if d, found, _ := subsume.Witness(ints, number); !found || d.Kind != api.Number || d.Num%api.Unit == 0 {
		t.Errorf("Witness of a number that is not whole: %v", d)
	}
}

// TestLists checks list cases (P21.1).
func TestLists(t *testing.T) {
	either := span(1, 2)
	checkExamples(t, []example{
		{list(closed(one), closed(two)), list(closed(either)), true}, {list(closed(one), closed(two)), list(closed(ints)), false}, {list(closed(one, either), closed(two, either)), list(closed(either, either)), true}, {list(closed(one, one), closed(two, two)), list(closed(either, either)), false},
		{list(closed(either, one), closed(one, two), closed(two, two)), list(closed(either, either)), true}, {list(closed(either, one), closed(one, two)), list(closed(either, either)), false},
		{list(closed(), longer(ints, ints)), list(longer(ints)), true}, {list(closed(), longer(ints, ints, ints)), list(longer(ints)), false}, {list(longer(ints)), list(closed(), longer(ints, one)), true}, {list(longer(ints)), list(closed(null)), false}, {list(longer(ints)), list(longer(top)), false},
		{list(closed(), closed(ints), closed(ints, ints)), list(longer(ints)), false}, {list(closed(ints)), list(longer(ints)), false}, {list(longer(ints, one), longer(ints, but(3, 1)), closed()), list(longer(span(1, 3))), true}, {list(longer(ints, one), longer(ints, but(3, 1))), list(longer(span(1, 3))), false},
		// Each case is violated at an index of its own, in lists that are long enough.
		{list(longer(one), longer(two)), list(longer(either)), false}, {list(longer(one), longer(two)), list(closed(either)), true}, {list(longer(one), longer(two)), list(closed(either, either)), false},
		{list(longer(but(3, 1)), longer(but(3, 2)), longer(but(3, 3))), list(longer(span(1, 3))), false}, {list(longer(but(3, 1)), longer(but(3, 2)), longer(but(3, 3))), list(closed(span(1, 3), span(1, 3))), true}, {list(longer(but(3, 1)), longer(but(3, 2)), longer(but(3, 3))), list(closed(span(1, 3), span(1, 3), span(1, 3))), false},
		{list(longer(but(3, 1)), longer(but(3, 2)), longer(but(3, 3), ints, ints, ints)), list(longer(span(1, 3))), false}, {list(longer(one), longer(two), longer(either, either, either, either)), list(longer(either)), false}, {list(longer(one), longer(two), longer(either, either, either)), list(longer(either)), true},
		{list(longer(one, ints), longer(ints, one)), list(longer(either, either)), false}, {list(longer(ints, one), longer(ints, but(9, 1))), list(longer(ints, span(1, 9))), true}, {list(longer(ints, one), longer(one, but(9, 1))), list(longer(either, span(1, 9))), false},
		// Items of several kinds, and nested lists.
		{list(closed(bools), closed(ints)), list(closed(union(bools, ints))), true}, {list(closed(list(closed(one))), closed(list(closed(two)))), list(closed(list(closed(either)))), true}, {list(closed(list(longer(one))), closed(list(longer(two)))), list(closed(list(longer(either)))), false},
	})
}

// TestStructs checks struct cases with fields (P21.1).
func TestStructs(t *testing.T) {
	either := span(1, 2)
	x := func(v api.Value) api.Field { return present("x", v) }
	y := func(v api.Value) api.Field { return present("y", v) }
	checkExamples(t, []example{
		{record(shut(x(one)), shut(x(two))), record(shut(x(either))), true}, {record(open(x(one)), open(x(two))), record(open(x(either))), true}, {record(shut(x(one)), shut(x(two))), record(shut(x(ints))), false}, // example 1
		{record(shut(x(one)), shut(x(two))), record(open(x(either))), false}, {record(open(x(one)), shut(x(two))), record(open(x(either))), false}, {record(open(x(one)), shut(x(two))), record(shut(x(either))), true},
		{record(open(present("a", ints))), record(among("a", ints, top)), false}, {record(among("a", ints, top)), record(open(required("a", ints))), true}, {record(open(required("a", ints))), record(open(present("a", ints))), true}, {record(open(present("a", ints))), record(open(required("a", ints))), true}, // from optional to required is a major change
		{record(shut()), record(open()), false}, {record(open()), record(shut()), true}, {record(shut(x(one))), record(shut()), false}, {record(shut()), record(shut(x(one))), false},
		// A label is there, or it is not.
		{record(open(present("a", top)), among("a", bottom, top)), record(open()), true}, {record(open(present("a", ints)), among("a", bottom, top)), record(open()), false}, {record(open(present("a", ints)), among("a", bottom, top)), record(among("a", ints, top)), true},
		{record(open(present("a", top)), open(present("b", top)), among("a|b", bottom, top)), record(open()), true}, {record(open(present("a", top)), open(present("b", top)), among("a|b|c", bottom, top)), record(open()), false}, {record(open(present("a", top)), among("a", bottom, top)), record(open(present("b", one))), true},
		{record(among("a", one, top), among("b", one, top)), record(open()), false}, {record(among("a", one, top), among("a", but(3, 1), top)), record(among("a", span(1, 3), top)), true}, {record(among("a", one, top), among("a", but(3, 1), top)), record(among("a", span(1, 4), top)), false},
		{record(open(present("", top)), among("()", bottom, top)), record(open()), true}, {record(open(present("", top)), among("()", bottom, one)), record(open()), false},
		// Several fields.
		{record(shut(x(one), y(either)), shut(x(two), y(one)), shut(x(two), y(two))), record(shut(x(either), y(either))), true}, {record(shut(x(one), y(either)), shut(x(two), y(one))), record(shut(x(either), y(either))), false}, {record(shut(x(one), y(ints)), shut(x(ints), y(one)), shut(x(two), y(two))), record(shut(x(either), y(either))), true},
		{record(shut(x(one), y(one)), shut(x(two), y(two))), record(shut(x(either), y(either))), false}, {record(open(x(one)), open(y(one)), open(x(two), y(two))), record(open(x(either), y(either))), true}, {record(open(x(one)), open(y(one)), open(x(two), y(two))), record(open(x(either))), false},
		{record(open(x(one)), open(y(one)), open(x(two), y(two)), among("y", bottom, top)), record(open(x(either))), false}, {record(open(x(one)), open(y(one)), open(x(two), y(but(9, 1))), among("y", bottom, top)), record(fieldsWith(span(1, 9), x(either))), true},
		// Nested structs, and alternatives in them.
		{record(shut(x(record(shut(x(one))))), shut(x(record(shut(x(two)))))), record(shut(x(record(shut(x(either)))))), true}, {record(shut(x(union(one, record(shut(x(one)))))), shut(x(record(shut(x(two)))))), record(shut(x(union(one, record(shut(x(either))))))), true}, {record(shut(x(record(shut(x(one))))), shut(x(record(shut(x(two)))))), record(shut(x(union(one, record(shut(x(either))))))), false},
		{record(open(x(top)), among("x", bottom, top)), record(open(present("a", record(open(x(one)))))), true},
	})
}

// fieldsWith returns a struct case in which all other labels have a value.
func fieldsWith(v api.Value, l ...api.Field) api.StructCase {
	return trial.Fields(plain(v), l...)
}

// TestClasses checks struct cases whose classes have few labels or many (P21.1).
func TestClasses(t *testing.T) {
	classed := func(set string, n int) api.Value {
		var l []api.StructCase
		for i := 1; i <= n; i++ {
			l = append(l, among(set, but(n, i), top))
		}
		return made(record(l...))
	}
	checkExamples(t, []example{
		// A label violates one of the cases only, so that as many labels are needed.
		{classed("a", 2), record(among("a", span(1, 2), top)), true}, {classed("a|b", 2), record(among("a|b", span(1, 2), top)), false}, {classed("a|b", 3), record(among("a|b", span(1, 3), top)), true}, {classed("[abc]", 3), record(among("[abc]", span(1, 3), top)), false}, {classed("[abc]", 4), record(among("[abc]", span(1, 4), top)), true},
		{classed("a.*", 3), record(among("a.*", span(1, 3), top)), false}, {classed("(a|b|())", 3), record(among("(a|b|())", span(1, 3), top)), false}, {classed("a|b", 3), record(among("a", span(1, 3), bottom)), true}, {classed("a|b", 3), record(among("a", span(1, 3), top)), false}, {classed("a|b", 2), record(fieldsWith(span(1, 2), present("a", one))), false}, {classed("a|b", 2), record(among("a|b", span(1, 2), span(5, 6))), false},
		{record(among("a|b", one, top), among("a|b", two, top)), record(shut(present("a", span(1, 2)))), true}, {record(among("a|b", one, top), among("a|b", two, top)), record(shut(present("a", span(1, 2)), present("b", span(1, 2)))), false}, {record(among("a|b", one, top), among("a|b", two, top), shut(present("a", one), present("b", two)), shut(present("a", two), present("b", one))), record(shut(present("a", span(1, 2)), present("b", span(1, 2)))), true},
		// Sets that overlap.
		{record(among("a.*", ints, top), among(".*b", ints, top)), record(open()), false}, {record(among("a.*|.*b", ints, top)), record(among("a.*", ints, top)), false}, {record(among("a.*", ints, top)), record(among("a.*|.*b", ints, top)), true}, {record(among("[ab]", one, top), among("[bc]", two, top)), record(shut(present("b", span(1, 2)))), true}, {record(among("[ab]", one, top), among("[bc]", two, top)), record(among("[abc]", span(1, 2), bottom)), false},
		{record(among("[ab]", one, top), among("[bc]", two, top)), record(among("b", span(1, 2), bottom)), true}, {record(among("a", bottom, top)), record(among("a.*", bottom, top)), true}, {record(among("a.*", bottom, top)), record(among("a", bottom, top)), false}, {record(among("aa*", top, bottom)), record(among("aa*", top, bottom)), true},
		// A label that only one case has as a field.
		{record(open(), open(present("b", one))), record(among("b", one, top)), true}, {record(among("a|b", one, top), open(present("b", two))), record(among("a|b", span(1, 2), bottom)), false}, {record(among("a|b", one, top), open(present("b", two)), open(present("a", two))), record(among("a|b", span(1, 2), bottom)), true},
		{kinds(list(longer(top)), record(among("()", bottom, top), fieldsWith(bottom, present("", top), required("x", union(bools, list(closed())))))), top, false},
	})
}

// TestDefaults checks that defaults do not matter (P21.1).
func TestDefaults(t *testing.T) {
	for _, v := range []api.Val{marked(ints, one), marked(ints, bottom)} {
		for _, c := range [][2]api.Value{
			{list(api.ListCase{Items: []api.Val{v}}), list(closed(ints))}, {list(api.ListCase{Rest: []api.Val{v}}), list(longer(ints))},
			{record(shut(api.Field{Label: "a", Presence: api.Present, Val: v})), record(shut(present("a", ints)))}, {record(trial.Fields(v)), record(fieldsWith(ints))},
		} {
			if !same(t, c[0], c[1]) {
				t.Errorf("%s and %s", shown(c[0]), shown(c[1]))
			}
		}
	}
}

// TestWrong checks values that are not valid (P21.1, P21.2).
func TestWrong(t *testing.T) {
	endless := record(open(present("a", one)))
	endless.Structs[0].Fields[0].Val.V = endless
	for i, v := range append(trial.WrongValues(), endless) {
		for _, w := range []api.Value{top, bottom, one, v} {
			for _, c := range [][2]api.Value{{v, w}, {w, v}} {
				got, e := subsume.Includes(c[0], c[1])
				equal, f := subsume.Same(c[0], c[1])
				d, found, g := subsume.Witness(c[0], c[1])
				if got || e != api.ErrKind || equal || f != api.ErrKind || found || g != api.ErrKind || !isZero(d) {
					t.Errorf("wrong value %d: %d, %d, %d", i, e, f, g)
				}
			}
		}
	}
}

// TestMemory checks that a witness shares no memory (P21.2).
func TestMemory(t *testing.T) {
	x := trial.Random(214)
	var note func(m trial.Memory, d api.Data)
	note = func(m trial.Memory, d api.Data) {
		trial.Note(m, d.Items)
		for _, item := range d.Items {
			note(m, item)
		}
		trial.Note(m, d.Members)
		for _, member := range d.Members {
			note(m, member.Data)
		}
	}
	large := 0
	for range 2000 {
		v := trial.Valid(&x, 1+x.Below(4)).V
		l := pieces(&x, v, 2+x.Below(5))
		d, found, _ := subsume.Witness(union(l[1:]...), v)
		m := trial.Memory{}
		note(m, d)
		if m.Twice() {
			t.Fatalf("%v", d)
		}
		if found && data.Size(d) > 2 {
			large++
		}
	}
	if large < 50 {
		t.Errorf("%d large witnesses", large)
	}
}
