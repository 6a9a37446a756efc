package refine_test

import (
	"testing"

	"configlang/api"
	"configlang/refine"
	"configlang/scalar"
	"configlang/trial"
	"configlang/value"
)

// made returns the valid Val that a random sound one denotes.
func made(t *testing.T, v api.Val) api.Val {
	t.Helper()
	m, e := refine.Make(v)
	if e != api.OK {
		t.Fatalf("Make(%s): %d", trial.Show(v), e)
	}
	return m
}

// pair returns two random valid Vals, of which the second one is often above the first one.
func pair(t *testing.T, x *trial.Random) (api.Val, api.Val) {
	b := made(t, trial.Val(x, 1+x.Below(3)))
	if x.Below(3) == 0 {
		return made(t, trial.Val(x, 1+x.Below(3))), b
	}
	return made(t, trial.LowerVal(x, b)), b
}

// TestOrder compares Leq and Below with the definition of the order (P13.1), and instances of both values (P13.5).
func TestOrder(t *testing.T) {
	x := trial.Random(131)
	yes, no, instances := 0, 0, 0
	for range 6000 {
		a, b := pair(t, &x)
		if got, want := refine.Leq(a, b), isBelowVal(a, b); got != want {
			t.Fatalf("Leq(%s, %s): %v", trial.Show(a), trial.Show(b), got)
		}
		if got, want := refine.Leq(b, a), isBelowVal(b, a); got != want {
			t.Fatalf("Leq(%s, %s): %v", trial.Show(b), trial.Show(a), got)
		}
		got := refine.Below(a.V, b.V)
		if got != isBelow(a.V, b.V) {
			t.Fatalf("Below(%s, %s): %v", shown(a.V), shown(b.V), got)
		}
		if !got {
			no++
			continue
		}
		yes++
		for range 20 {
			if d := trial.Data(&x, 3); trial.Has(a.V, d) {
				instances++
				if !trial.Has(b.V, d) {
					t.Fatalf("%s is below %s, but has %v", shown(a.V), shown(b.V), d)
				}
			}
		}
	}
	if yes < 2000 || no < 500 || instances < 1000 {
		t.Errorf("%d pairs are in order, %d are not; %d instances", yes, no, instances)
	}
}

// TestPartialOrder checks that Leq is a partial order with the greatest element Top and the least element Bottom (P13.5).
func TestPartialOrder(t *testing.T) {
	x := trial.Random(132)
	chains := 0
	for range 2000 {
		a, b := pair(t, &x)
		c := made(t, trial.LowerVal(&x, a))
		if !refine.Leq(a, a) || !refine.Leq(a, value.Top()) || !refine.Leq(value.Bottom(), a) {
			t.Fatalf("Leq of %s", trial.Show(a))
		}
		if refine.Leq(a, b) && refine.Leq(b, a) != value.Equal(a, b) {
			t.Fatalf("%s and %s are below each other", trial.Show(a), trial.Show(b))
		}
		if refine.Leq(value.Top(), a) != value.IsTop(a) || refine.Leq(a, value.Bottom()) != value.Equal(a, value.Bottom()) {
			t.Fatalf("%s, Top and Bottom", trial.Show(a))
		}
		if !refine.Leq(c, a) {
			t.Fatalf("%s is not below %s", trial.Show(c), trial.Show(a))
		}
		if refine.Leq(a, b) {
			chains++
			if !refine.Leq(c, b) {
				t.Fatalf("%s is below %s, but not below %s", trial.Show(c), trial.Show(a), trial.Show(b))
			}
		}
	}
	if chains < 500 {
		t.Errorf("%d chains", chains)
	}
}

// scalars, numbers and others of the tests below.
var (
	one    = trial.Number(1)
	two    = trial.Number(2)
	ints   = trial.Kind("int")
	null   = trial.Kind("null")
	top    = value.Top().V
	bottom = api.Value{}
)

// TestOrderCases checks which values are below others (P13.1).
func TestOrderCases(t *testing.T) {
	shut, open := trial.Shut, trial.Open
	present, required := trial.Present, trial.Required
	list, record := trial.List, trial.Record
	all := api.Value{Scalars: scalar.All()}
	for i, c := range []struct {
		a, b       api.Value
		down, upon bool // whether a is below b, and b below a
	}{
		{one, ints, true, false}, {one, two, false, false}, {bottom, one, true, false}, {one, top, true, false}, {all, top, true, false}, {one, all, true, false},
		{one, list(trial.Longer(top)), false, false}, {list(trial.Closed()), record(open()), false, false},
		{list(trial.Closed(one)), list(trial.Longer(ints)), true, false}, // example 2
		{list(trial.Closed(one)), list(trial.Closed(ints)), true, false},
		{list(trial.Closed(one)), list(trial.Closed(one, one)), false, false},
		{list(trial.Closed(one)), list(trial.Closed()), false, false},
		{list(trial.Closed()), list(trial.Longer(one)), true, false},
		{list(trial.Closed()), list(trial.Longer(one, one)), false, false},
		{list(trial.Longer(one)), list(trial.Closed()), false, true},
		{list(trial.Longer(one, one)), list(trial.Longer(one)), true, false},
		{list(trial.Longer(one, one, two)), list(trial.Longer(ints, one)), true, false},
		{list(trial.Longer(two, one)), list(trial.Longer(one, one)), false, false},
		{list(trial.Closed(one, null)), list(trial.Longer(ints, one)), false, false},
		{list(trial.Longer(null, one)), list(trial.Longer(ints)), false, false},
		{list(trial.Closed(one), trial.Closed(two)), list(trial.Closed(ints)), true, false},
		{list(trial.Closed(one), trial.Closed(null)), list(trial.Closed(ints)), false, false},
		{record(open(present("a", one))), record(open(required("a", one))), true, false},
		{record(open(required("a", one))), record(api.StructCase{Classes: []api.Class{trial.Others(value.Top(), "a"), {Set: trial.Strs("a"), Val: value.Plain(one)}}}), true, false},
		{record(open(present("a", one))), record(api.StructCase{Classes: []api.Class{trial.Others(value.Top(), "a"), {Set: trial.Strs("a"), Val: value.Plain(ints)}}}), true, false}, // example 3
		{record(open(present("a", one))), record(open(present("b", one))), false, false},
		{record(open(present("a", one), present("b", two))), record(open(present("b", ints))), true, false},
		{record(open(present("a", one), present("b", two))), record(shut(present("b", ints))), false, false},
		{record(shut(present("a", one))), record(open(present("a", one))), true, false},
		{record(shut()), record(open()), true, false},
		{record(shut()), record(open(present("a", top))), false, false},
		{record(shut(present("a", one))), record(trial.Fields(value.Plain(ints))), true, false},
		{record(shut(present("a", one)), shut(present("a", two))), record(shut(present("a", ints))), true, false},
		{record(trial.Fields(value.Plain(one))), record(trial.Fields(value.Plain(two))), false, false},
		{record(shut(present("", one))), record(open(required("", ints))), true, false},
		{record(trial.Fields(value.Plain(one), required("a", one))), record(trial.Fields(value.Plain(ints), required("a", one))), true, false},
		{record(trial.Fields(value.Plain(one), required("a", ints))), record(trial.Fields(value.Plain(ints), required("a", one))), false, false},
	} {
		a, b := made(t, value.Plain(c.a)), made(t, value.Plain(c.b))
		if refine.Below(a.V, b.V) != c.down || refine.Below(b.V, a.V) != c.upon || refine.Leq(a, b) != c.down || refine.Leq(b, a) != c.upon {
			t.Errorf("case %d: %s, %s", i, shown(c.a), shown(c.b))
		}
	}
}

// TestDefaults checks that the defaults of Vals are compared, also of those in other ones (P13.1).
func TestDefaults(t *testing.T) {
	bare, plain, loose := trial.Marked(one, bottom), trial.Marked(one, one), trial.Marked(ints, one)
	if !refine.Leq(bare, plain) || refine.Leq(plain, bare) || !refine.Below(bare.V, plain.V) || !refine.Below(plain.V, bare.V) { // example 1
		t.Error("the Vals of 1 with and without a default")
	}
	if !refine.Leq(plain, loose) || refine.Leq(loose, plain) || refine.Leq(value.Plain(two), loose) || !refine.Leq(trial.Marked(two, bottom), loose) || !refine.Leq(loose, value.Plain(ints)) {
		t.Error("the Val of int with the default 1")
	}
	if !refine.Leq(trial.Marked(top, bottom), value.Top()) || refine.Leq(value.Top(), trial.Marked(top, bottom)) {
		t.Error("everything with a default")
	}
	in := func(v api.Val) []api.Value {
		return []api.Value{
			trial.List(api.ListCase{Items: []api.Val{v}}),
			trial.List(api.ListCase{Rest: []api.Val{v}}),
			trial.Record(trial.Open(api.Field{Label: "a", Presence: api.Present, Val: v})),
			trial.Record(trial.Fields(v)),
		}
	}
	for i := range in(plain) {
		if !refine.Below(in(bare)[i], in(plain)[i]) || refine.Below(in(plain)[i], in(bare)[i]) || !refine.Below(in(plain)[i], in(loose)[i]) || refine.Below(in(value.Plain(two))[i], in(loose)[i]) {
			t.Errorf("defaults in a value of kind %d", i)
		}
	}
}

// TestInvalidOrder checks that nothing is below or above what is not valid (P13.1).
func TestInvalidOrder(t *testing.T) {
	x := trial.Random(133)
	for _, v := range trial.Wrong() {
		if refine.Leq(v, v) || refine.Leq(v, value.Top()) || refine.Leq(value.Bottom(), v) {
			t.Errorf("Leq of %s", trial.Show(v))
		}
	}
	for range 1000 {
		v, w := trial.Val(&x, 3), made(t, trial.Val(&x, 2))
		if got := refine.Leq(v, value.Top()); got != isValid(v) || got != refine.Leq(value.Bottom(), v) {
			t.Fatalf("Leq of %s: %v", trial.Show(v), got)
		}
		if got := refine.Below(v.V, top); got != isGood(v.V) || got != refine.Below(bottom, v.V) || got != refine.Below(v.V, v.V) {
			t.Fatalf("Below of %s: %v", shown(v.V), got)
		}
		if refine.Leq(w, v) && !isValid(v) || refine.Leq(v, w) && !isValid(v) {
			t.Fatalf("Leq of %s and %s", trial.Show(v), trial.Show(w))
		}
	}
}
