package unify_test

import (
	"slices"
	"testing"

	"configlang/api"
	"configlang/automaton"
	"configlang/lang"
	"configlang/parts"
	"configlang/refine"
	"configlang/scalar"
	"configlang/trial"
	"configlang/unify"
	"configlang/value"
)

// Values of the tests below.
var (
	one    = trial.Number(1)
	two    = trial.Number(2)
	ints   = trial.Kind("int")
	null   = trial.Kind("null")
	top    = value.Top().V
	bottom = api.Value{}
	list   = trial.List
	record = trial.Record
)

// shown returns a text of a value.
func shown(v api.Value) string {
	return trial.Show(value.Plain(v))
}

// unified returns the bound of valid Vals.
func unified(t *testing.T, l ...api.Val) api.Val {
	t.Helper()
	v, e := unify.All(l)
	if e != api.OK {
		t.Fatalf("All: %d", e)
	}
	return v
}

// TestUnify compares Unify and Meet with the definition, and Conflict with them (P14.1, P14.2).
func TestUnify(t *testing.T) {
	x := trial.Random(141)
	conflicts, bounds, several, marked := 0, 0, 0, 0
	for range 6000 {
		a, b := trial.Near(&x)
		u, v := parts.CopyVal(a), parts.CopyVal(b)
		want := bound(a, b)
		got, e := unify.Unify(a, b)
		if e != api.OK || !value.Equal(got, want) || !refine.Valid(got) {
			t.Fatalf("Unify(%s, %s): %s, %d, want %s", trial.Show(a), trial.Show(b), trial.Show(got), e, trial.Show(want))
		}
		for _, p := range [][3]api.Value{{a.V, b.V, want.V}, {a.D, b.D, want.D}} {
			if m, e := unify.Meet(p[0], p[1]); e != api.OK || !parts.Same(m, p[2]) {
				t.Fatalf("Meet(%s, %s): %s, %d, want %s", shown(p[0]), shown(p[1]), shown(m), e, shown(p[2]))
			}
		}
		empty := value.IsBottom(want.V)
		if unify.Conflict(a, b) != empty {
			t.Fatalf("Conflict(%s, %s): %v", trial.Show(a), trial.Show(b), !empty)
		}
		if !parts.SameVal(a, u) || !parts.SameVal(b, v) {
			t.Fatalf("%s or %s is changed", trial.Show(u), trial.Show(v))
		}
		if empty {
			conflicts++
		} else {
			bounds++
		}
		if len(got.V.Lists) > 1 || len(got.V.Structs) > 1 {
			several++
		}
		if !parts.Same(got.V, got.D) {
			marked++
		}
	}
	if conflicts < 500 || bounds < 3000 || several < 300 || marked < 500 {
		t.Errorf("%d conflicts, %d bounds, %d with several cases, %d with defaults", conflicts, bounds, several, marked)
	}
}

// TestGreatest checks that Unify is below both Vals, and above each that is below both; and that instances of both values are those of Meet (P14.1).
func TestGreatest(t *testing.T) {
	x := trial.Random(142)
	lower, instances := 0, 0
	for range 1500 {
		a, b := trial.Near(&x)
		m := unified(t, a, b)
		if !refine.Leq(m, a) || !refine.Leq(m, b) {
			t.Fatalf("%s is not below %s and %s", trial.Show(m), trial.Show(a), trial.Show(b))
		}
		for range 5 {
			c := trial.Made(trial.LowerVal(&x, a))
			if !refine.Leq(c, b) {
				continue
			}
			lower++
			if !refine.Leq(c, m) {
				t.Fatalf("%s is below %s and %s, but not below %s", trial.Show(c), trial.Show(a), trial.Show(b), trial.Show(m))
			}
		}
		for range 10 {
			d := trial.Data(&x, 3)
			if trial.Has(m.V, d) != (trial.Has(a.V, d) && trial.Has(b.V, d)) {
				t.Fatalf("%v: %s, %s, %s", d, trial.Show(a), trial.Show(b), trial.Show(m))
			}
			if trial.Has(m.V, d) {
				instances++
			}
		}
	}
	if lower < 1500 || instances < 500 {
		t.Errorf("%d lower bounds, %d instances", lower, instances)
	}
}

// TestAlgebra checks that Unify is commutative, associative and idempotent, its neutral and absorbing elements, the order, and All in another order (P14.4).
func TestAlgebra(t *testing.T) {
	x := trial.Random(143)
	for range 1500 {
		a, b := trial.Near(&x)
		c := trial.Valid(&x, 1+x.Below(3))
		if x.Below(2) == 0 {
			c = trial.Made(trial.LowerVal(&x, b))
		}
		ab := unified(t, a, b)
		if !value.Equal(ab, unified(t, b, a)) || !value.Equal(unified(t, a, a), a) || !value.Equal(unified(t, ab, b), ab) {
			t.Fatalf("Unify of %s and %s", trial.Show(a), trial.Show(b))
		}
		if !value.Equal(unified(t, a, value.Top()), a) || !value.Equal(unified(t, value.Top(), a), a) || !value.Equal(unified(t, a, value.Bottom()), value.Bottom()) || !value.Equal(unified(t, value.Bottom(), a), value.Bottom()) {
			t.Fatalf("%s with Top and Bottom", trial.Show(a))
		}
		if refine.Leq(a, b) != value.Equal(ab, a) || refine.Leq(b, a) != value.Equal(ab, b) {
			t.Fatalf("%s and %s: %s", trial.Show(a), trial.Show(b), trial.Show(ab))
		}
		all := unified(t, a, b, c)
		first, e := unify.Unify(ab, c)
		second, e2 := unify.Unify(a, unified(t, b, c))
		if e != api.OK || e2 != api.OK || !value.Equal(first, all) || !value.Equal(second, all) {
			t.Fatalf("%s, %s, %s: %s, %s, %s", trial.Show(a), trial.Show(b), trial.Show(c), trial.Show(first), trial.Show(second), trial.Show(all))
		}
		for _, l := range [][]api.Val{{c, b, a}, {b, c, a}, {a, b, b, c, a}, {c, value.Top(), a, c, b}} {
			if !value.Equal(unified(t, l...), all) {
				t.Fatalf("All depends on the order of %s, %s, %s", trial.Show(a), trial.Show(b), trial.Show(c))
			}
		}
	}
}

// TestAll checks All of no Vals, of one, and of several (P14.2).
func TestAll(t *testing.T) {
	marked := trial.Marked(ints, one)
	for i, c := range []struct {
		l    []api.Val
		want api.Val
	}{
		{nil, value.Top()}, {[]api.Val{}, value.Top()}, {[]api.Val{marked}, marked}, {[]api.Val{value.Bottom()}, value.Bottom()},
		{[]api.Val{marked, marked}, marked}, {[]api.Val{value.Top(), marked}, marked}, {[]api.Val{value.Plain(two), marked}, trial.Marked(two, bottom)},
		{[]api.Val{value.Plain(two), value.Plain(one), marked}, value.Bottom()},
		{[]api.Val{value.Plain(record(trial.Open(trial.Present("a", ints)))), value.Plain(record(trial.Open(trial.Present("b", two)))), value.Plain(record(trial.Open(trial.Required("a", one))))},
			value.Plain(record(trial.Open(trial.Present("a", one), trial.Present("b", two))))},
	} {
		if got, e := unify.All(c.l); e != api.OK || !value.Equal(got, c.want) {
			t.Errorf("case %d: %s, %d", i, trial.Show(got), e)
		}
	}
}

// TestLists checks the bounds of list cases (P14.1, P14.3).
func TestLists(t *testing.T) {
	closed, longer := trial.Closed, trial.Longer
	none := api.ListCase{}
	for i, c := range []struct {
		a, b, want api.ListCase
		ok         bool
	}{
		{closed(ints), longer(top, one), closed(one), true}, // example 3
		{closed(ints), closed(ints, ints), none, false},     // example 4
		{closed(), closed(), none, true}, {closed(), longer(one), none, true}, {closed(), closed(one), none, false}, {closed(), longer(top, top), none, false},
		{closed(one), longer(top), closed(one), true}, {closed(one), longer(null), none, false}, {closed(one), closed(two), none, false},
		{closed(ints, one), longer(ints, one), closed(one, one), true}, {closed(ints, null), longer(ints, one), none, false},
		{closed(one), longer(top, top, top), none, false}, {closed(one), longer(two, one), closed(one), true},
		{longer(ints), longer(one), longer(one), true}, {longer(one), longer(two), none, true}, {longer(one, null), longer(two, top), closed(null), true},
		{longer(one, null), longer(two), none, false}, {longer(ints, null), longer(top, top, top, one), longer(ints, null, ints, one), true},
		{longer(ints, null), longer(null, top, top), closed(null, ints), true}, {longer(ints), longer(null, one), closed(one), true},
		{api.ListCase{Items: []api.Val{trial.Marked(ints, one)}}, closed(two), api.ListCase{Items: []api.Val{trial.Marked(two, bottom)}}, true},
		{api.ListCase{Rest: []api.Val{trial.Marked(ints, one)}}, longer(two), api.ListCase{Rest: []api.Val{trial.Marked(two, bottom)}}, true},
	} {
		for _, p := range [][2]api.ListCase{{c.a, c.b}, {c.b, c.a}} {
			got, ok := unify.Sequences(p[0], p[1])
			if ok != c.ok || !parts.Same(list(got), list(c.want)) {
				t.Errorf("case %d: %s, %v", i, shown(list(got)), ok)
			}
			want := bottom
			if c.ok {
				want = list(c.want)
			}
			if m, e := unify.Meet(list(p[0]), list(p[1])); e != api.OK || !parts.Same(m, want) {
				t.Errorf("case %d: Meet is %s, %d", i, shown(m), e)
			}
		}
	}
}

// TestStructs checks the bounds of struct cases (P14.1, P14.3).
func TestStructs(t *testing.T) {
	open, shut, present, required := trial.Open, trial.Shut, trial.Present, trial.Required
	none := api.StructCase{}
	a, noA := automaton.Word("a"), trial.Others(value.Top(), "a").Set
	onlyA := func(v, others api.Val) api.StructCase {
		return api.StructCase{Classes: []api.Class{{Set: noA, Val: others}, {Set: a, Val: v}}}
	}
	plain := value.Plain
	for i, c := range []struct {
		a, b, want api.StructCase
		ok         bool
	}{
		{open(present("a", ints)), open(present("a", one), present("b", two)), open(present("a", one), present("b", two)), true}, // example 2
		{shut(present("a", ints)), open(present("a", one), present("b", two)), none, false},
		{shut(present("a", ints)), open(present("a", one)), shut(present("a", one)), true},
		{open(), open(), open(), true}, {open(), shut(), shut(), true}, {shut(), open(required("a", top)), none, false},
		{open(required("a", ints)), open(present("a", one)), open(present("a", one)), true}, {open(required("a", ints)), open(required("a", one)), open(required("a", one)), true}, {open(present("a", ints)), open(present("a", one)), open(present("a", one)), true},
		{open(present("a", one)), open(required("a", two)), none, false}, {open(present("a", one), present("b", one)), open(present("b", two)), none, false},
		{open(required("b", one)), open(present("a", two)), open(present("a", two), required("b", one)), true},
		{open(present("", one)), open(required("", ints)), open(present("", one)), true},
		{trial.Fields(plain(ints)), open(required("a", top)), trial.Fields(plain(ints), required("a", ints)), true},
		{trial.Fields(plain(one)), trial.Fields(plain(two)), shut(), true}, {trial.Fields(plain(one)), trial.Fields(plain(ints), present("a", two)), none, false},
		{onlyA(plain(ints), value.Top()), open(present("a", one)), open(present("a", one)), true},
		{onlyA(plain(ints), value.Top()), open(required("a", null)), none, false},
		{onlyA(plain(ints), value.Top()), trial.Fields(plain(one)), trial.Fields(plain(one)), true},
		{onlyA(plain(ints), value.Top()), trial.Fields(plain(null)), onlyA(value.Bottom(), plain(null)), true},
		{onlyA(plain(ints), plain(null)), onlyA(plain(one), plain(two)), onlyA(plain(one), value.Bottom()), true},
		{onlyA(plain(ints), plain(null)), onlyA(plain(null), plain(two)), shut(), true},
		{onlyA(trial.Marked(ints, one), value.Top()), open(present("a", two)), open(api.Field{Label: "a", Presence: api.Present, Val: trial.Marked(two, bottom)}), true},
		{onlyA(plain(one), plain(two)), open(present("b", top)), api.StructCase{Fields: []api.Field{present("b", two)}, Classes: []api.Class{{Set: trial.Others(api.Val{}, "a", "b").Set, Val: plain(two)}, {Set: a, Val: plain(one)}}}, true},
		{api.StructCase{Classes: []api.Class{{Set: trial.Strs("()|b.*"), Val: plain(ints)}, {Set: trial.Strs("[^b].*"), Val: plain(null)}}}, onlyA(value.Top(), plain(one)),
			api.StructCase{Classes: []api.Class{{Set: trial.Strs("()|b.*"), Val: plain(one)}, {Set: lang.Minus(trial.Strs("[^b].*"), a)}, {Set: a, Val: plain(null)}}}, true},
	} {
		for _, p := range [][2]api.StructCase{{c.a, c.b}, {c.b, c.a}} {
			got, ok := unify.Cases(p[0], p[1])
			if ok != c.ok || !parts.Same(record(got), record(c.want)) {
				t.Errorf("case %d: %s, %v", i, shown(record(got)), ok)
			}
			want := bottom
			if c.ok {
				want = record(c.want)
			}
			if m, e := unify.Meet(record(p[0]), record(p[1])); e != api.OK || !parts.Same(m, want) {
				t.Errorf("case %d: Meet is %s, %d", i, shown(m), e)
			}
		}
	}
}

// TestValues checks bounds of values with several kinds of parts, and of several cases (P14.1).
func TestValues(t *testing.T) {
	closed, longer, open, shut, present := trial.Closed, trial.Longer, trial.Open, trial.Shut, trial.Present
	or := func(a, b api.Value) api.Value { return api.Value{Scalars: scalar.Or(a.Scalars, b.Scalars)} }
	for i, c := range []struct{ a, b, want api.Value }{
		{ints, one, one}, {ints, null, bottom}, {or(one, two), or(two, null), two}, {top, one, one}, {top, top, top}, {bottom, top, bottom}, {bottom, bottom, bottom},
		{ints, list(longer(top)), bottom}, {list(closed()), record(open()), bottom},
		{api.Value{Scalars: scalar.All(), Lists: []api.ListCase{longer(top)}}, api.Value{Scalars: scalar.All(), Structs: []api.StructCase{open()}}, api.Value{Scalars: scalar.All()}},
		{list(longer(top)), api.Value{Scalars: one.Scalars, Lists: []api.ListCase{closed(one)}, Structs: []api.StructCase{open()}}, list(closed(one))},
		{list(closed(one), closed(two)), list(closed(ints)), list(closed(one), closed(two))},
		{list(closed(one), closed(two)), list(closed(two), closed(null)), list(closed(two))},
		// The bound of the first cases is below that of the second ones.
		{list(closed(one, ints), closed(ints, top)), list(longer(ints)), list(closed(ints, ints))},
		{list(closed(one, top), closed(top, two)), list(closed(top, two), closed(one, null)), list(closed(one, null), closed(top, two))},
		{record(shut(present("a", one)), shut(present("b", one))), record(open(present("b", ints))), record(shut(present("b", one)))},
		{record(shut(present("a", one)), shut(present("a", two))), record(shut(present("a", ints))), record(shut(present("a", one)), shut(present("a", two)))},
		{record(open(present("b", one)), shut(present("a", two))), record(open(present("a", ints))), record(open(present("a", ints), present("b", one)), shut(present("a", two)))},
		{record(open(present("a", one)), open(present("b", one))), record(open(present("a", one)), open(present("b", one))), record(open(present("a", one)), open(present("b", one)))},
	} {
		a, b, want := trial.Made(value.Plain(c.a)).V, trial.Made(value.Plain(c.b)).V, trial.Made(value.Plain(c.want)).V
		for _, p := range [][2]api.Value{{a, b}, {b, a}} {
			if got, e := unify.Meet(p[0], p[1]); e != api.OK || !parts.Same(got, want) {
				t.Errorf("case %d: %s, %d", i, shown(got), e)
			}
			if got, e := unify.Unify(value.Plain(p[0]), value.Plain(p[1])); e != api.OK || !value.Equal(got, value.Plain(want)) {
				t.Errorf("case %d: Unify is %s, %d", i, trial.Show(got), e)
			}
			if got, e := unify.Unify(trial.Marked(p[0], bottom), trial.Marked(p[1], bottom)); e != api.OK || !value.Equal(got, trial.Marked(want, bottom)) {
				t.Errorf("case %d: Unify without defaults is %s, %d", i, trial.Show(got), e)
			}
			if unify.Conflict(value.Plain(p[0]), value.Plain(p[1])) != value.IsBottom(want) {
				t.Errorf("case %d: Conflict", i)
			}
		}
	}
}

// TestDefaults checks that the defaults are unified for themselves, and what is left of them (P14.1).
func TestDefaults(t *testing.T) {
	oneOrTwo := api.Value{Scalars: scalar.Or(one.Scalars, two.Scalars)}
	if got := unified(t, trial.Marked(oneOrTwo, one), value.Plain(two)); !value.Equal(got, trial.Marked(two, bottom)) { // example 1
		t.Errorf("1 or 2 with the default 1, and 2: %s", trial.Show(got))
	}
	if got := unified(t, trial.Marked(oneOrTwo, one), value.Plain(ints)); !value.Equal(got, trial.Marked(oneOrTwo, one)) {
		t.Errorf("1 or 2 with the default 1, and int: %s", trial.Show(got))
	}
	if got := unified(t, trial.Marked(oneOrTwo, one), trial.Marked(ints, two)); !value.Equal(got, trial.Marked(oneOrTwo, bottom)) {
		t.Errorf("1 or 2 with the default 1, and int with the default 2: %s", trial.Show(got))
	}
	if unify.Conflict(trial.Marked(oneOrTwo, one), value.Plain(two)) || unify.Conflict(trial.Marked(oneOrTwo, one), trial.Marked(oneOrTwo, two)) || !unify.Conflict(trial.Marked(one, one), value.Plain(two)) {
		t.Error("Conflict does not depend on the defaults")
	}
	// A default in a part may be bottom without the part being so.
	inner := func(v api.Val) api.Value {
		return record(trial.Open(api.Field{Label: "a", Presence: api.Present, Val: v}))
	}
	if got, e := unify.Meet(inner(trial.Marked(ints, one)), inner(value.Plain(two))); e != api.OK || !parts.Same(got, inner(trial.Marked(two, bottom))) {
		t.Errorf("a default in a field: %s, %d", shown(got), e)
	}
}

// TestCases compares Cases and Sequences with Meet of the values that have the cases alone (P14.3).
func TestCases(t *testing.T) {
	x := trial.Random(144)
	yes, no := 0, 0
	check := func(got, a, b api.Value, ok bool) {
		t.Helper()
		m, e := unify.Meet(a, b)
		if e != api.OK || ok == value.IsBottom(m) || ok && !parts.Same(got, m) {
			t.Fatalf("case of %s and %s: %s, %v, want %s", shown(a), shown(b), shown(got), ok, shown(m))
		}
		if ok {
			yes++
		} else {
			no++
		}
	}
	for range 2000 {
		a, b := trial.Near(&x)
		for _, c := range a.V.Lists {
			for _, d := range b.V.Lists {
				got, ok := unify.Sequences(c, d)
				if !ok && !parts.Same(list(got), list(api.ListCase{})) {
					t.Fatalf("a case, although there is none: %s", shown(list(got)))
				}
				check(list(got), list(c), list(d), ok)
			}
		}
		for _, c := range a.V.Structs {
			for _, d := range b.V.Structs {
				got, ok := unify.Cases(c, d)
				if !ok && !parts.Same(record(got), record(api.StructCase{})) {
					t.Fatalf("a case, although there is none: %s", shown(record(got)))
				}
				check(record(got), record(c), record(d), ok)
			}
		}
	}
	if yes < 500 || no < 100 {
		t.Errorf("%d pairs of cases have a bound, %d do not", yes, no)
	}
}

// TestInvalid checks arguments that are not valid (P14.1 to P14.3).
func TestInvalid(t *testing.T) {
	right := []api.Val{value.Top(), value.Bottom(), value.Plain(list(trial.Longer(top)))}
	for i, v := range trial.Wrong() {
		for _, w := range append(right, v) {
			for _, p := range [][2]api.Val{{v, w}, {w, v}} {
				if got, e := unify.Unify(p[0], p[1]); e != api.ErrKind || !parts.SameVal(got, api.Val{}) {
					t.Errorf("Unify of wrong Val %d: %s, %d", i, trial.Show(got), e)
				}
				if unify.Conflict(p[0], p[1]) {
					t.Errorf("Conflict of wrong Val %d", i)
				}
			}
		}
		for _, l := range [][]api.Val{{v}, {value.Bottom(), value.Bottom(), v}, {v, value.Top()}, append(slices.Clone(right), v)} {
			if got, e := unify.All(l); e != api.ErrKind || !parts.SameVal(got, api.Val{}) {
				t.Errorf("All with wrong Val %d: %s, %d", i, trial.Show(got), e)
			}
		}
	}
	for i, v := range trial.WrongValues() {
		for _, p := range [][2]api.Value{{v, top}, {top, v}, {bottom, v}, {v, bottom}, {v, v}} {
			if got, e := unify.Meet(p[0], p[1]); e != api.ErrKind || !parts.Same(got, bottom) {
				t.Errorf("Meet of wrong value %d: %s, %d", i, shown(got), e)
			}
		}
		for _, v := range []api.Value{v, list(trial.Closed(v)), list(trial.Longer(v)), record(trial.Open(trial.Present("a", v))), record(trial.Fields(value.Plain(v)))} {
			checkInvalidCases(t, v)
		}
	}
}

// checkInvalidCases checks that the cases of a value that are not valid have no bounds.
func checkInvalidCases(t *testing.T, v api.Value) {
	t.Helper()
	for _, c := range v.Lists {
		if refine.Good(list(c)) {
			continue
		}
		for _, d := range []api.ListCase{trial.Longer(top), c} {
			for _, p := range [][2]api.ListCase{{c, d}, {d, c}} {
				if got, ok := unify.Sequences(p[0], p[1]); ok || !parts.Same(list(got), list(api.ListCase{})) {
					t.Errorf("Sequences of %s: %v", shown(list(c)), ok)
				}
			}
		}
	}
	for _, c := range v.Structs {
		if refine.Good(record(c)) {
			continue
		}
		for _, d := range []api.StructCase{trial.Open(), c} {
			for _, p := range [][2]api.StructCase{{c, d}, {d, c}} {
				if got, ok := unify.Cases(p[0], p[1]); ok || !parts.Same(record(got), record(api.StructCase{})) {
					t.Errorf("Cases of %s: %v", shown(record(c)), ok)
				}
			}
		}
	}
}

// TestMemory checks that results share no memory with arguments, nor their parts with each other (P14.1 to P14.3).
func TestMemory(t *testing.T) {
	x := trial.Random(145)
	for range 1500 {
		a, b := trial.Near(&x)
		a, b = parts.CopyVal(a), parts.CopyVal(b)
		v, _ := unify.Unify(a, b)
		w, _ := unify.All([]api.Val{b})
		m, _ := unify.Meet(a.V, a.V)
		n, _ := unify.Meet(b.V, top)
		if trial.Shares(a, b, v, w, trial.Marked(m, n)) {
			t.Fatalf("Unify, All or Meet of %s and %s", trial.Show(a), trial.Show(b))
		}
		for _, c := range a.V.Lists {
			for _, d := range b.V.Lists {
				one, _ := unify.Sequences(c, d)
				two, _ := unify.Sequences(c, c)
				if trial.Shares(a, b, trial.Marked(list(one), list(two))) {
					t.Fatalf("Sequences of %s and %s", shown(list(c)), shown(list(d)))
				}
			}
		}
		for _, c := range a.V.Structs {
			for _, d := range b.V.Structs {
				one, _ := unify.Cases(c, d)
				two, _ := unify.Cases(c, c)
				if trial.Shares(a, b, trial.Marked(record(one), record(two))) {
					t.Fatalf("Cases of %s and %s", shown(record(c)), shown(record(d)))
				}
			}
		}
	}
}
