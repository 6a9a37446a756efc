package disjoin_test

import (
	"testing"

	"configlang/api"
	"configlang/disjoin"
	"configlang/instance"
	"configlang/parts"
	"configlang/refine"
	"configlang/scalar"
	"configlang/trial"
	"configlang/unify"
	"configlang/value"
)

// Values of the tests below.
var (
	one     = trial.Number(1)
	two     = trial.Number(2)
	ints    = trial.Kind("int")
	null    = trial.Kind("null")
	top     = value.Top().V
	bottom  = api.Value{}
	list    = trial.List
	record  = trial.Record
	plain   = value.Plain
	marked  = trial.Marked
	present = trial.Present
)

// shown returns a text of a value.
func shown(v api.Value) string {
	return trial.Show(plain(v))
}

// joined returns the least upper bound of valid Vals.
func joined(t *testing.T, a, b api.Val) api.Val {
	t.Helper()
	v, e := disjoin.Join(a, b)
	if e != api.OK {
		t.Fatalf("Join(%s, %s): %d", trial.Show(a), trial.Show(b), e)
	}
	return v
}

// unified returns the greatest lower bound of valid Vals.
func unified(t *testing.T, a, b api.Val) api.Val {
	t.Helper()
	v, e := unify.Unify(a, b)
	if e != api.OK {
		t.Fatalf("Unify(%s, %s): %d", trial.Show(a), trial.Show(b), e)
	}
	return v
}

// scalars returns the value of the scalars of some values.
func scalars(l ...api.Value) api.Value {
	var s api.Scalars
	for _, v := range l {
		s = scalar.Or(s, v.Scalars)
	}
	return api.Value{Scalars: s}
}

// TestJoin compares Join and Union with the definition (P15.1).
func TestJoin(t *testing.T) {
	x := trial.Random(151)
	several, below, marks := 0, 0, 0
	for range 4000 {
		a, b := trial.Near(&x)
		u, v := parts.CopyVal(a), parts.CopyVal(b)
		want := api.Val{V: trial.Union(a.V, b.V), D: trial.Union(a.D, b.D)}
		got := joined(t, a, b)
		if !value.Equal(got, want) || !refine.Valid(got) {
			t.Fatalf("Join(%s, %s): %s, want %s", trial.Show(a), trial.Show(b), trial.Show(got), trial.Show(want))
		}
		for _, p := range [][3]api.Value{{a.V, b.V, want.V}, {a.D, b.D, want.D}, {a.V, b.D, trial.Union(a.V, b.D)}} {
			if m, e := disjoin.Union(p[0], p[1]); e != api.OK || !parts.Same(m, p[2]) {
				t.Fatalf("Union(%s, %s): %s, %d, want %s", shown(p[0]), shown(p[1]), shown(m), e, shown(p[2]))
			}
		}
		if !parts.SameVal(a, u) || !parts.SameVal(b, v) {
			t.Fatalf("%s or %s is changed", trial.Show(u), trial.Show(v))
		}
		if len(got.V.Lists) > 1 || len(got.V.Structs) > 1 {
			several++
		}
		if len(got.V.Lists) < len(a.V.Lists)+len(b.V.Lists) || len(got.V.Structs) < len(a.V.Structs)+len(b.V.Structs) {
			below++
		}
		if !parts.Same(got.V, got.D) {
			marks++
		}
	}
	if several < 300 || below < 500 || marks < 500 {
		t.Errorf("%d with several cases, %d with cases below others, %d with defaults", several, below, marks)
	}
}

// TestLeast checks that Join is above both Vals, and below each valid Val that is above both; and that the instances of Union are those of either value (P15.1, P15.4).
func TestLeast(t *testing.T) {
	x := trial.Random(152)
	upper, either := 0, 0
	for range 1500 {
		c := trial.Valid(&x, 1+x.Below(3))
		a, b := trial.Made(trial.LowerVal(&x, c)), trial.Made(trial.LowerVal(&x, c))
		if x.Below(4) == 0 {
			a, b = trial.Near(&x)
		}
		j := joined(t, a, b)
		if !refine.Leq(a, j) || !refine.Leq(b, j) {
			t.Fatalf("%s is not above %s and %s", trial.Show(j), trial.Show(a), trial.Show(b))
		}
		for _, c := range []api.Val{c, trial.Valid(&x, 2), joined(t, a, c), joined(t, j, trial.Valid(&x, 2))} {
			if !refine.Leq(a, c) || !refine.Leq(b, c) {
				continue
			}
			upper++
			if !refine.Leq(j, c) {
				t.Fatalf("%s is above %s and %s, but not above %s", trial.Show(c), trial.Show(a), trial.Show(b), trial.Show(j))
			}
		}
		for range 10 {
			d := trial.DataNear(&x, trial.Pick(&x, a.V, b.V, c.V))
			p, q := trial.Has(a.V, d), trial.Has(b.V, d)
			if instance.Has(j.V, d) != (p || q) {
				t.Fatalf("%v: %s, %s, %s", d, trial.Show(a), trial.Show(b), trial.Show(j))
			}
			if p != q {
				either++
			}
		}
	}
	if upper < 2000 || either < 1000 {
		t.Errorf("%d upper bounds, %d instances of one", upper, either)
	}
}

// TestAlgebra checks that Join is commutative, associative and idempotent, its neutral and absorbing elements, the order, and the laws of a distributive lattice with Unify (P15.4).
func TestAlgebra(t *testing.T) {
	x := trial.Random(153)
	for range 1500 {
		a, b := trial.Near(&x)
		c := trial.Valid(&x, 1+x.Below(3))
		if x.Below(2) == 0 {
			c = trial.Made(trial.LowerVal(&x, b))
		}
		j, m := joined(t, a, b), unified(t, a, b)
		if !value.Equal(j, joined(t, b, a)) || !value.Equal(joined(t, a, a), a) || !value.Equal(joined(t, j, b), j) {
			t.Fatalf("Join of %s and %s", trial.Show(a), trial.Show(b))
		}
		if !value.Equal(joined(t, a, value.Bottom()), a) || !value.Equal(joined(t, value.Bottom(), a), a) || !value.Equal(joined(t, a, value.Top()), value.Top()) || !value.Equal(joined(t, value.Top(), a), value.Top()) {
			t.Fatalf("%s with Top and Bottom", trial.Show(a))
		}
		if refine.Leq(a, b) != value.Equal(j, b) || refine.Leq(b, a) != value.Equal(j, a) {
			t.Fatalf("%s and %s: %s", trial.Show(a), trial.Show(b), trial.Show(j))
		}
		if !value.Equal(joined(t, a, m), a) || !value.Equal(unified(t, a, j), a) {
			t.Fatalf("%s and %s do not absorb each other", trial.Show(a), trial.Show(b))
		}
		bc := joined(t, b, c)
		if !value.Equal(joined(t, j, c), joined(t, a, bc)) {
			t.Fatalf("Join of %s, %s and %s is not associative", trial.Show(a), trial.Show(b), trial.Show(c))
		}
		if !value.Equal(unified(t, a, bc), joined(t, m, unified(t, a, c))) || !value.Equal(joined(t, a, unified(t, b, c)), unified(t, j, joined(t, a, c))) {
			t.Fatalf("%s, %s and %s do not distribute", trial.Show(a), trial.Show(b), trial.Show(c))
		}
		or, e := disjoin.Or([]api.Val{a, b, c}, make([]bool, 3))
		if e != api.OK || !value.Equal(or, joined(t, j, c)) {
			t.Fatalf("Or of %s, %s and %s: %s, %d", trial.Show(a), trial.Show(b), trial.Show(c), trial.Show(or), e)
		}
	}
}

// TestValues checks unions of values by hand (P15.1).
func TestValues(t *testing.T) {
	closed, longer, open, shut, required := trial.Closed, trial.Longer, trial.Open, trial.Shut, trial.Required
	lists, structs := []api.ListCase{longer(top)}, []api.StructCase{open()}
	all := api.Value{Scalars: scalar.All()}
	for i, c := range []struct{ a, b, want api.Value }{
		{one, ints, ints}, {one, two, scalars(one, two)}, {one, bottom, one}, {bottom, bottom, bottom}, {top, bottom, top}, {top, one, top}, {top, top, top}, // example 2
		{null, list(closed()), api.Value{Scalars: null.Scalars, Lists: []api.ListCase{closed()}}},
		{list(closed()), record(open()), api.Value{Lists: []api.ListCase{closed()}, Structs: structs}},
		{list(closed(one)), list(closed(two)), list(closed(one), closed(two))}, {list(closed(two)), list(closed(one)), list(closed(one), closed(two))},
		{list(closed(one)), list(longer(ints)), list(longer(ints))}, {list(longer(one)), list(closed(two)), list(closed(two), longer(one))},
		{list(closed(one)), list(closed(one)), list(closed(one))}, {list(closed(one), closed(two)), list(closed(ints)), list(closed(ints))},
		{list(closed(one), closed(two)), list(closed(two), closed(null)), list(closed(null), closed(one), closed(two))},
		{record(open(present("a", one))), record(open(required("a", ints))), record(open(required("a", ints)))},
		{record(open(present("a", one))), record(shut(present("a", ints))), record(open(present("a", one)), shut(present("a", ints)))},
		{record(shut(present("a", one)), shut(present("b", one))), record(open(present("b", ints))), record(shut(present("a", one)), open(present("b", ints)))},
		{record(open(present("a", one))), record(open()), record(open())},
		{api.Value{Scalars: scalar.Minus(scalar.All(), null.Scalars)}, null, all},
		// All scalars, all lists and all structs are everything.
		{api.Value{Scalars: scalar.All(), Lists: lists}, record(open()), top}, {api.Value{Scalars: scalar.All(), Structs: structs}, list(longer(top)), top}, {api.Value{Lists: lists, Structs: structs}, all, top},
		{api.Value{Scalars: ints.Scalars, Lists: lists, Structs: structs}, api.Value{Scalars: scalar.Minus(scalar.All(), one.Scalars), Lists: []api.ListCase{closed(one)}}, top},
		{api.Value{Scalars: scalar.All(), Lists: lists}, record(shut()), api.Value{Scalars: scalar.All(), Lists: lists, Structs: []api.StructCase{shut()}}},
		{api.Value{Scalars: scalar.All(), Structs: structs}, list(longer(top, top)), api.Value{Scalars: scalar.All(), Lists: []api.ListCase{longer(top, top)}, Structs: structs}},
	} {
		a, b, want := trial.Made(plain(c.a)).V, trial.Made(plain(c.b)).V, trial.Made(plain(c.want)).V
		for _, p := range [][2]api.Value{{a, b}, {b, a}} {
			if got, e := disjoin.Union(p[0], p[1]); e != api.OK || !parts.Same(got, want) {
				t.Errorf("case %d: %s, %d", i, shown(got), e)
			}
			if got := joined(t, plain(p[0]), plain(p[1])); !value.Equal(got, plain(want)) {
				t.Errorf("case %d: Join is %s", i, trial.Show(got))
			}
			if got := joined(t, marked(p[0], bottom), marked(p[1], bottom)); !value.Equal(got, marked(want, bottom)) {
				t.Errorf("case %d: Join without defaults is %s", i, trial.Show(got))
			}
			if got := joined(t, marked(p[0], bottom), plain(p[1])); !value.Equal(got, marked(want, p[1])) {
				t.Errorf("case %d: Join with one default is %s", i, trial.Show(got))
			}
		}
	}
}

// TestOr checks disjunctions with and without marks (P15.2).
func TestOr(t *testing.T) {
	three := trial.Number(3)
	yes, no := true, false
	for i, c := range []struct {
		l     []api.Val
		marks []bool
		want  api.Val
	}{
		{[]api.Val{plain(one), plain(two)}, []bool{yes, no}, marked(scalars(one, two), one)}, // example 1
		{[]api.Val{plain(one), plain(two)}, []bool{no, yes}, marked(scalars(one, two), two)},
		{[]api.Val{plain(one), plain(two)}, []bool{no, no}, plain(scalars(one, two))}, {[]api.Val{plain(one), plain(two)}, []bool{yes, yes}, plain(scalars(one, two))},
		{[]api.Val{plain(one), plain(two), plain(three)}, []bool{yes, no, yes}, marked(scalars(one, two, three), scalars(one, three))},
		{[]api.Val{marked(ints, one)}, []bool{no}, marked(ints, one)}, {[]api.Val{marked(ints, one)}, []bool{yes}, marked(ints, one)},
		{[]api.Val{marked(ints, one), marked(ints, two)}, []bool{no, no}, marked(ints, scalars(one, two))}, {[]api.Val{marked(ints, one), marked(ints, two)}, []bool{no, yes}, marked(ints, two)},
		{[]api.Val{marked(ints, one), plain(null)}, []bool{no, no}, marked(scalars(ints, null), scalars(one, null))},
		// The default of a marked element may be bottom; then there is none.
		{[]api.Val{marked(ints, bottom), plain(null)}, []bool{yes, no}, marked(scalars(ints, null), bottom)}, {[]api.Val{marked(ints, bottom), plain(null)}, []bool{no, no}, marked(scalars(ints, null), null)},
		{[]api.Val{value.Bottom(), plain(null)}, []bool{yes, no}, marked(null, bottom)}, {[]api.Val{value.Bottom()}, []bool{yes}, value.Bottom()},
		{[]api.Val{value.Top(), plain(null)}, []bool{no, yes}, marked(top, null)}, {[]api.Val{value.Top(), plain(null)}, []bool{no, no}, value.Top()},
		{[]api.Val{plain(list(trial.Closed(one))), plain(list(trial.Longer(ints)))}, []bool{yes, no}, marked(list(trial.Longer(ints)), list(trial.Closed(one)))},
	} {
		if got, e := disjoin.Or(c.l, c.marks); e != api.OK || !value.Equal(got, c.want) {
			t.Errorf("case %d: %s, %d", i, trial.Show(got), e)
		}
	}
	or, _ := disjoin.Or([]api.Val{plain(one), plain(two)}, []bool{yes, no})
	if got := disjoin.Resolve(or); !parts.Same(got, one) {
		t.Errorf("1 or 2 with the default 1: %s", shown(got))
	}
	if got := disjoin.Resolve(unified(t, or, plain(two))); !parts.Same(got, two) {
		t.Errorf("1 or 2 with the default 1, and 2: %s", shown(got))
	}
}

// TestOrRandom compares Or of random Vals and marks with the definition (P15.2).
func TestOrRandom(t *testing.T) {
	x := trial.Random(154)
	none, some := 0, 0
	for range 2000 {
		a, b := trial.Near(&x)
		l := []api.Val{a, b, trial.Valid(&x, 2), trial.Made(trial.LowerVal(&x, a)), b}[:1+x.Below(5)]
		var marks []bool
		var all, chosen api.Val
		any := false
		for _, v := range l {
			mark := x.Below(4) == 0
			marks = append(marks, mark)
			all = api.Val{V: trial.Union(all.V, v.V), D: trial.Union(all.D, v.D)}
			if mark {
				any = true
				chosen.D = trial.Union(chosen.D, v.D)
			}
		}
		want := all
		if any {
			want.D = chosen.D
			some++
		} else {
			none++
		}
		got, e := disjoin.Or(l, marks)
		if e != api.OK || !value.Equal(got, want) || !refine.Valid(got) {
			t.Fatalf("Or: %s, %d, want %s", trial.Show(got), e, trial.Show(want))
		}
	}
	if none < 500 || some < 500 {
		t.Errorf("%d without marks, %d with marks", none, some)
	}
}

// TestSizes checks the errors of Or (P15.2).
func TestSizes(t *testing.T) {
	v, wrong := plain(one), marked(one, two)
	for i, c := range []struct {
		l     []api.Val
		marks []bool
		want  api.Errno
	}{
		{nil, nil, api.ErrSize}, {[]api.Val{}, []bool{}, api.ErrSize}, {nil, []bool{true}, api.ErrSize}, {[]api.Val{v}, nil, api.ErrSize}, {[]api.Val{v}, []bool{true, false}, api.ErrSize}, {[]api.Val{v, v}, []bool{true}, api.ErrSize},
		{[]api.Val{wrong}, nil, api.ErrSize}, {[]api.Val{wrong}, []bool{false}, api.ErrKind}, {[]api.Val{v, wrong}, []bool{true, false}, api.ErrKind}, {[]api.Val{value.Top(), v, wrong}, []bool{true, false, true}, api.ErrKind},
	} {
		if got, e := disjoin.Or(c.l, c.marks); e != c.want || !parts.SameVal(got, api.Val{}) {
			t.Errorf("case %d: %s, %d, want %d", i, trial.Show(got), e, c.want)
		}
	}
}

// TestResolve checks Resolve, Forget and Ambiguous by hand (P15.3).
func TestResolve(t *testing.T) {
	item, empty, open := trial.Closed(one), trial.Closed(), trial.Open()
	for i, c := range []struct {
		v         api.Val
		want      api.Value
		ambiguous bool
	}{
		{plain(one), one, false}, {marked(ints, one), one, false}, {marked(ints, bottom), ints, true}, {plain(ints), ints, true}, {value.Bottom(), bottom, false}, {value.Top(), top, true}, {marked(top, bottom), top, true}, {marked(top, one), one, false},
		{plain(scalars(one, two)), scalars(one, two), true}, {marked(scalars(one, two), two), two, false}, {marked(scalars(one, two), bottom), scalars(one, two), true}, {plain(trial.Text("")), trial.Text(""), false}, {plain(trial.Kind("bool")), trial.Kind("bool"), true}, {plain(null), null, false},
		{plain(list(item)), list(item), false}, {plain(list(empty, item)), list(empty, item), true}, {marked(list(empty, item), list(item)), list(item), false}, {plain(list(trial.Longer(ints))), list(trial.Longer(ints)), false},
		{plain(record(open)), record(open), false}, {plain(record(trial.Open(present("a", one)), trial.Open(present("b", one)))), record(trial.Open(present("a", one)), trial.Open(present("b", one))), true},
		{plain(api.Value{Scalars: one.Scalars, Lists: []api.ListCase{empty}}), api.Value{Scalars: one.Scalars, Lists: []api.ListCase{empty}}, true},
		{plain(api.Value{Lists: []api.ListCase{empty}, Structs: []api.StructCase{open}}), api.Value{Lists: []api.ListCase{empty}, Structs: []api.StructCase{open}}, true},
		{marked(api.Value{Scalars: one.Scalars, Structs: []api.StructCase{open}}, one), one, false},
	} {
		if got := disjoin.Resolve(c.v); !parts.Same(got, c.want) {
			t.Errorf("case %d: Resolve is %s", i, shown(got))
		}
		if got := disjoin.Forget(c.v); !parts.SameVal(got, plain(c.v.V)) {
			t.Errorf("case %d: Forget is %s", i, trial.Show(got))
		}
		if disjoin.Ambiguous(c.v) != c.ambiguous {
			t.Errorf("case %d: Ambiguous is %v", i, !c.ambiguous)
		}
	}
}

// TestPrefer checks Prefer by hand (P15.3).
func TestPrefer(t *testing.T) {
	for i, c := range []struct {
		v    api.Val
		d    api.Value
		want api.Val
	}{
		{plain(ints), one, marked(ints, one)}, {marked(ints, two), one, marked(ints, one)}, {marked(ints, two), top, plain(ints)}, {plain(ints), null, marked(ints, bottom)}, {plain(ints), bottom, marked(ints, bottom)},
		{plain(scalars(one, null)), ints, marked(scalars(one, null), one)}, {value.Top(), one, marked(top, one)}, {value.Bottom(), one, value.Bottom()}, {value.Bottom(), top, value.Bottom()},
		{plain(list(trial.Longer(ints))), list(trial.Closed(top)), marked(list(trial.Longer(ints)), list(trial.Closed(ints)))},
	} {
		if got, e := disjoin.Prefer(c.v, c.d); e != api.OK || !value.Equal(got, c.want) {
			t.Errorf("case %d: %s, %d", i, trial.Show(got), e)
		}
	}
}

// TestDefaults compares Resolve, Prefer, Forget and Ambiguous of random Vals with their definitions (P15.3, P15.4).
func TestDefaults(t *testing.T) {
	x := trial.Random(155)
	defaults, many := 0, 0
	for range 3000 {
		v, w := trial.Near(&x)
		before := parts.CopyVal(v)
		r := disjoin.Resolve(v)
		want := v.D
		if value.IsBottom(v.D) {
			want = v.V
		}
		if !parts.Same(r, want) || !refine.Below(r, v.V) || value.IsBottom(r) != value.IsBottom(v.V) {
			t.Fatalf("Resolve(%s): %s", trial.Show(v), shown(r))
		}
		p, e := disjoin.Prefer(v, w.D)
		low, _ := unify.Meet(v.V, w.D)
		if e != api.OK || !value.Equal(p, marked(v.V, low)) || !refine.Valid(p) {
			t.Fatalf("Prefer(%s, %s): %s, %d", trial.Show(v), shown(w.D), trial.Show(p), e)
		}
		f := disjoin.Forget(v)
		if !value.Equal(f, plain(v.V)) {
			t.Fatalf("Forget(%s): %s", trial.Show(v), trial.Show(f))
		}
		n := len(r.Lists) + len(r.Structs)
		if _, ok := scalar.Single(r.Scalars); ok {
			n++
		} else if !scalar.Empty(r.Scalars) || r.Any {
			n = 2
		}
		if disjoin.Ambiguous(v) != (n > 1) {
			t.Fatalf("Ambiguous(%s): %v", trial.Show(v), n < 2)
		}
		if !parts.SameVal(v, before) {
			t.Fatalf("%s is changed", trial.Show(before))
		}
		if !parts.Same(r, v.V) {
			defaults++
		}
		if n > 1 {
			many++
		}
	}
	if defaults < 300 || many < 500 || many > 2900 {
		t.Errorf("%d have defaults, %d are ambiguous", defaults, many)
	}
}

// TestInvalid checks arguments that are not valid (P15.1 to P15.3).
func TestInvalid(t *testing.T) {
	none := func(what string, i int, v api.Val, e api.Errno) {
		t.Helper()
		if e != api.ErrKind || !parts.SameVal(v, api.Val{}) {
			t.Errorf("%s of wrong argument %d: %s, %d", what, i, trial.Show(v), e)
		}
	}
	for i, v := range trial.Wrong() {
		for _, w := range []api.Val{value.Top(), value.Bottom(), plain(list(trial.Longer(top))), v} {
			for _, p := range [][2]api.Val{{v, w}, {w, v}} {
				got, e := disjoin.Join(p[0], p[1])
				none("Join", i, got, e)
				got, e = disjoin.Or([]api.Val{p[0], value.Bottom(), p[1]}, []bool{false, true, false})
				none("Or", i, got, e)
			}
		}
		got, e := disjoin.Prefer(v, top)
		none("Prefer", i, got, e)
		got, e = disjoin.Prefer(v, bottom)
		none("Prefer", i, got, e)
		none("Resolve", i, plain(disjoin.Resolve(v)), api.ErrKind)
		none("Forget", i, disjoin.Forget(v), api.ErrKind)
		if disjoin.Ambiguous(v) {
			t.Errorf("Ambiguous of wrong Val %d", i)
		}
	}
	for i, v := range trial.WrongValues() {
		for _, p := range [][2]api.Value{{v, top}, {top, v}, {bottom, v}, {v, bottom}, {v, v}} {
			got, e := disjoin.Union(p[0], p[1])
			none("Union", i, plain(got), e)
		}
		for _, w := range []api.Val{value.Top(), value.Bottom(), plain(one)} {
			got, e := disjoin.Prefer(w, v)
			none("Prefer", i, got, e)
		}
	}
}

// TestMemory checks that results share no memory with arguments, nor their parts with each other (P15.1 to P15.3).
func TestMemory(t *testing.T) {
	x := trial.Random(156)
	for range 1500 {
		a, b := trial.Near(&x)
		a, b = parts.CopyVal(a), parts.CopyVal(b)
		j := joined(t, a, b)
		k := joined(t, a, a)
		u, _ := disjoin.Union(a.V, b.V)
		w, _ := disjoin.Union(b.D, bottom)
		o, _ := disjoin.Or([]api.Val{a, a, b}, []bool{true, false, false})
		p, _ := disjoin.Prefer(b, a.V)
		q, _ := disjoin.Prefer(b, top)
		r := marked(disjoin.Resolve(a), disjoin.Resolve(marked(b.V, bottom)))
		if trial.Shares(a, b, j, k, marked(u, w), o, p, q, r, disjoin.Forget(a), disjoin.Forget(b)) {
			t.Fatalf("%s and %s", trial.Show(a), trial.Show(b))
		}
	}
}
