package conflict_test

import (
	"cmp"
	"reflect"
	"slices"
	"strconv"
	"testing"

	"configlang/api"
	"configlang/conflict"
	"configlang/parts"
	"configlang/trial"
	"configlang/unify"
	"configlang/value"
)

// Values of the tests below.
var (
	one     = trial.Number(1)
	two     = trial.Number(2)
	ints    = trial.Kind("int")
	null    = trial.Kind("null")
	top     = value.Top().V
	bottom  = api.Value{}
	list    = trial.List
	record  = trial.Record
	open    = trial.Open
	shut    = trial.Shut
	present = trial.Present
	plain   = value.Plain
	plains  = trial.Plains
	marked  = trial.Marked
)

// sets is a list of sets of indices.
type sets = [][]int

// same reports whether two lists of sets are equal.
func same(a, b sets) bool {
	return slices.EqualFunc(a, b, slices.Equal)
}

// consistent reports whether the constraints of a set, given by its bits, are consistent, by the definition.
func consistent(t *testing.T, l []api.Val, s int) bool {
	t.Helper()
	var some []api.Val
	for i, v := range l {
		if s>>i&1 == 1 {
			some = append(some, v)
		}
	}
	v, e := unify.All(some)
	if e != api.OK {
		t.Fatalf("All: %d", e)
	}
	return !value.IsBottom(v.V)
}

// listed returns the indices of the bits of some sets, in the order of the chapter.
func listed(l []int) sets {
	var all sets
	for _, s := range l {
		indices := []int{}
		for i := 0; s>>i > 0; i++ {
			if s>>i&1 == 1 {
				indices = append(indices, i)
			}
		}
		all = append(all, indices)
	}
	slices.SortFunc(all, func(a, b []int) int { return cmp.Or(len(a)-len(b), slices.Compare(a, b)) })
	return all
}

// definition returns what Minimal, Maximal and Repairs return, by their definitions.
func definition(t *testing.T, l []api.Val) (minimal, maximal, repairs sets) {
	t.Helper()
	n := 1 << len(l)
	good := make([]bool, n)
	for s := range n {
		good[s] = consistent(t, l, s)
	}
	var low, high, removed []int
	for s := range n {
		alone := true
		for o := range n {
			within := good[s] && o&s == s || !good[s] && o&s == o
			if within && o != s && good[o] == good[s] {
				alone = false
				break
			}
		}
		switch {
		case alone && good[s]:
			high = append(high, s)
			removed = append(removed, n-1-s)
		case alone:
			low = append(low, s)
		}
	}
	return listed(low), listed(high), listed(removed)
}

// check compares all functions with their definitions.
func check(t *testing.T, l []api.Val) (minimal, maximal sets) {
	t.Helper()
	show := func() (s []string) {
		for _, v := range l {
			s = append(s, trial.Show(v))
		}
		return s
	}
	low, high, removed := definition(t, l)
	minimal, e := conflict.Minimal(l)
	if e != api.OK || !same(minimal, low) {
		t.Fatalf("Minimal(%q): %v, %d, want %v", show(), minimal, e, low)
	}
	maximal, e = conflict.Maximal(l)
	if e != api.OK || !same(maximal, high) {
		t.Fatalf("Maximal(%q): %v, %d, want %v", show(), maximal, e, high)
	}
	repairs, e := conflict.Repairs(l)
	if e != api.OK || !same(repairs, removed) {
		t.Fatalf("Repairs(%q): %v, %d, want %v", show(), repairs, e, removed)
	}
	first, e := conflict.First(l)
	if e != api.OK || len(low) > 0 && !slices.Equal(first, low[0]) || len(low) == 0 && len(first) > 0 {
		t.Fatalf("First(%q): %v, %d", show(), first, e)
	}
	return minimal, maximal
}

// random returns random valid Vals, few of which are bottom.
func random(x *trial.Random, n int) []api.Val {
	var l []api.Val
	kinds := 1 + 2*x.Below(2)
	for len(l) < n {
		switch x.Below(kinds) {
		case 1:
			v, w := trial.Near(x)
			l = append(l, v, w)
		case 0:
			v := bottom
			for i := range 4 {
				if x.Below(4) > 0 {
					v = trial.Union(v, trial.Number(int64(i)))
				}
			}
			l = append(l, plain(v))
		case 2:
			l = append(l, plain(record(trial.Open(present(trial.Pick(x, "a", "b"), trial.Pick(x, one, two, ints, top))))))
		}
	}
	return l[:n]
}

// TestRandom compares all functions with their definitions on random constraints (P23.1, P23.2).
func TestRandom(t *testing.T) {
	x := trial.Random(231)
	none, several, large := 0, 0, 0
	for range 400 {
		l := random(&x, x.Below(7))
		before := parts.Each(l, parts.CopyVal)
		minimal, maximal := check(t, l)
		if !slices.EqualFunc(l, before, parts.SameVal) {
			t.Fatal("the constraints are changed")
		}
		switch {
		case len(minimal) == 0:
			none++
		case len(minimal) > 1 && len(maximal) > 1:
			several++
		}
		if slices.ContainsFunc(minimal, func(s []int) bool { return len(s) > 2 }) {
			large++
		}
	}
	if none < 50 || several < 100 || large < 10 {
		t.Errorf("%d have no conflict, %d have several, %d have one of more than two constraints", none, several, large)
	}
}

// TestExamples checks conflicts by hand (P23.1, P23.2).
func TestExamples(t *testing.T) {
	or := trial.Union
	three := trial.Number(3)
	for i, c := range []struct {
		l                         []api.Val
		minimal, maximal, repairs sets
	}{
		{plains(one, two, ints), sets{{0, 1}}, sets{{0, 2}, {1, 2}}, sets{{0}, {1}}}, // example 1
		{nil, nil, sets{{}}, sets{{}}}, {[]api.Val{}, nil, sets{{}}, sets{{}}},
		{plains(one), nil, sets{{0}}, sets{{}}}, {plains(bottom), sets{{0}}, sets{{}}, sets{{0}}}, {plains(top, ints, one), nil, sets{{0, 1, 2}}, sets{{}}},
		{plains(bottom, one, bottom), sets{{0}, {2}}, sets{{1}}, sets{{0, 2}}}, {plains(bottom, one, two), sets{{0}, {1, 2}}, sets{{1}, {2}}, sets{{0, 1}, {0, 2}}},
		{plains(one, two, three), sets{{0, 1}, {0, 2}, {1, 2}}, sets{{0}, {1}, {2}}, sets{{0, 1}, {0, 2}, {1, 2}}}, {plains(one, one, two), sets{{0, 2}, {1, 2}}, sets{{2}, {0, 1}}, sets{{2}, {0, 1}}},
		// Each two of three have something in common.
		{plains(or(one, two), or(two, three), or(three, one)), sets{{0, 1, 2}}, sets{{0, 1}, {0, 2}, {1, 2}}, sets{{0}, {1}, {2}}},
		{plains(or(two, three), one, ints, null), sets{{0, 1}, {0, 3}, {1, 3}, {2, 3}}, sets{{3}, {0, 2}, {1, 2}}, sets{{0, 3}, {1, 3}, {0, 1, 2}}},
		// Defaults do not matter.
		{[]api.Val{marked(ints, one), marked(ints, two)}, nil, sets{{0, 1}}, sets{{}}}, {[]api.Val{marked(ints, bottom), marked(one, bottom), plain(two)}, sets{{1, 2}}, sets{{0, 1}, {0, 2}}, sets{{1}, {2}}},
		// Conflicts in parts.
		{plains(record(open(present("a", one))), record(open(present("b", one))), record(shut(present("a", ints)))), sets{{1, 2}}, sets{{0, 1}, {0, 2}}, sets{{1}, {2}}},
		{plains(list(trial.Longer(top, one)), list(trial.Closed()), list(trial.Longer(ints))), sets{{0, 1}}, sets{{0, 2}, {1, 2}}, sets{{0}, {1}}},
		{plains(record(open(present("a", one)), open(present("b", one))), record(open(present("a", null))), record(open(present("b", null)))), sets{{0, 1, 2}}, sets{{0, 1}, {0, 2}, {1, 2}}, sets{{0}, {1}, {2}}},
	} {
		minimal, e := conflict.Minimal(c.l)
		maximal, e2 := conflict.Maximal(c.l)
		repairs, e3 := conflict.Repairs(c.l)
		if e != api.OK || e2 != api.OK || e3 != api.OK || !same(minimal, c.minimal) || !same(maximal, c.maximal) || !same(repairs, c.repairs) {
			t.Errorf("case %d: %v, %v, %v", i, minimal, maximal, repairs)
		}
		first, e := conflict.First(c.l)
		if want := append(c.minimal, nil)[0]; e != api.OK || !slices.Equal(first, want) {
			t.Errorf("case %d: First is %v, %d, want %v", i, first, e, want)
		}
	}
}

// TestLaws checks how conflicts and repairs are related, and what a further constraint adds (P23.3).
func TestLaws(t *testing.T) {
	x := trial.Random(232)
	added := 0
	for range 400 {
		l := random(&x, 1+x.Below(7))
		minimal, _ := conflict.Minimal(l)
		if consistent(t, l, 1<<len(l)-1) != (len(minimal) == 0) {
			t.Fatalf("minimal conflicts: %v", minimal)
		}
		repairs, _ := conflict.Repairs(l)
		meets := func(r []int) bool {
			return !slices.ContainsFunc(minimal, func(c []int) bool {
				return !slices.ContainsFunc(c, func(i int) bool { return slices.Contains(r, i) })
			})
		}
		for _, r := range repairs {
			if !meets(r) {
				t.Fatalf("repair %v does not meet all of %v", r, minimal)
			}
			for i := range r {
				if meets(slices.Delete(slices.Clone(r), i, i+1)) {
					t.Fatalf("a part of repair %v meets all of %v", r, minimal)
				}
			}
		}
		more, _ := conflict.Minimal(append(l, random(&x, 1)...))
		for _, c := range minimal {
			if !slices.ContainsFunc(more, func(d []int) bool { return slices.Equal(c, d) }) {
				t.Fatalf("conflict %v is not in %v", c, more)
			}
		}
		for _, d := range more {
			old := slices.ContainsFunc(minimal, func(c []int) bool { return slices.Equal(c, d) })
			if old == slices.Contains(d, len(l)) {
				t.Fatalf("conflict %v: those before are %v", d, minimal)
			}
			if !old {
				added++
			}
		}
	}
	if added < 300 {
		t.Errorf("%d conflicts are added", added)
	}
}

// TestMost checks as many constraints as there may be (P23.1, P23.2).
func TestMost(t *testing.T) {
	var except, pairs []api.Val
	for i := range api.MaxParts {
		var others, own api.Value
		for k := range api.MaxParts {
			if k != i {
				others = trial.Union(others, trial.Number(int64(k)))
			}
		}
		own = trial.Number(int64(i / 2))
		except, pairs = append(except, plain(others)), append(pairs, plain(own))
	}
	// All constraints but one have a number in common.
	minimal, maximal := check(t, except)
	if len(minimal) != 1 || len(minimal[0]) != api.MaxParts || len(maximal) != api.MaxParts {
		t.Errorf("all but one: %v, %v", minimal, maximal)
	}
	if minimal, maximal = check(t, pairs); len(minimal) != 60 || len(maximal) != 6 {
		t.Errorf("pairs: %v, %v", minimal, maximal)
	}
	if minimal, maximal = check(t, slices.Repeat([]api.Val{plain(ints)}, api.MaxParts)); len(minimal) != 0 || len(maximal) != 1 {
		t.Errorf("no conflict: %v, %v", minimal, maximal)
	}
	// Any five constraints have something in common, any six have not: as many conflicts as there can be.
	common := make([]api.Value, api.MaxParts)
	for s := range 1 << api.MaxParts {
		if five := listed([]int{s})[0]; len(five) == 5 {
			for _, i := range five {
				common[i] = trial.Union(common[i], trial.Number(int64(s)))
			}
		}
	}
	if minimal, maximal = check(t, plains(common...)); len(minimal) != 924 || len(maximal) != 792 {
		t.Errorf("any six: %d, %d", len(minimal), len(maximal))
	}
}

// results returns the results of all functions.
func results(l []api.Val) (sets, []api.Errno) {
	minimal, e := conflict.Minimal(l)
	maximal, e2 := conflict.Maximal(l)
	repairs, e3 := conflict.Repairs(l)
	first, e4 := conflict.First(l)
	return slices.Concat(minimal, maximal, repairs, sets{first}), []api.Errno{e, e2, e3, e4}
}

// TestErrors checks constraints that are not valid, and too many of them (P23.1, P23.2).
func TestErrors(t *testing.T) {
	wrong := func(e api.Errno, l []api.Val) {
		t.Helper()
		if got, errors := results(l); !reflect.DeepEqual(errors, []api.Errno{e, e, e, e}) || len(got) != 1 || len(got[0]) > 0 {
			t.Errorf("%d constraints: %v, %v, want %d", len(l), got, errors, e)
		}
	}
	many := slices.Repeat([]api.Val{plain(one)}, api.MaxParts)
	for _, v := range trial.Wrong() {
		wrong(api.ErrKind, []api.Val{v})
		wrong(api.ErrKind, []api.Val{value.Bottom(), plain(one), v})
		wrong(api.ErrKind, append(slices.Repeat(many, 2), v))
	}
	wrong(api.ErrSize, append(many, plain(one)))
	wrong(api.ErrSize, append(many, value.Bottom()))
	wrong(api.ErrSize, slices.Repeat(many, 10))
	if _, errors := results(many); !reflect.DeepEqual(errors, make([]api.Errno, 4)) {
		t.Errorf("%d constraints: %v", len(many), errors)
	}
	endless := list(trial.Closed(one))
	endless.Lists[0].Items[0].V = endless
	wrong(api.ErrKind, plains(one, endless))
}

// TestMemory checks that the sets of a result share no memory (P23.1).
func TestMemory(t *testing.T) {
	x := trial.Random(233)
	for range 100 {
		l := random(&x, 5)
		m := trial.Memory{}
		for _, search := range []func([]api.Val) ([][]int, api.Errno){conflict.Minimal, conflict.Maximal, conflict.Repairs} {
			found, _ := search(l)
			trial.Note(m, found)
			for _, s := range found {
				trial.Note(m, s)
			}
		}
		if m.Twice() {
			t.Fatal("common memory")
		}
	}
}

// TestLarge checks constraints with many alternatives, and with many fields (P23.1).
func TestLarge(t *testing.T) {
	var either, fields []api.Val
	for i := range 8 {
		a, b := "a"+strconv.Itoa(i), "b"+strconv.Itoa(i)
		either = append(either, plain(record(open(present(a, one)), open(present(b, one)))))
		var l []api.Field
		for k := range 50 {
			l = append(l, present("k"+strconv.Itoa(100*i+k+1000), one))
		}
		fields = append(fields, plain(record(open(l...))))
	}
	for i, v := range either {
		either[i] = trial.Made(v)
	}
	if minimal, e := conflict.Minimal(either); e != api.OK || len(minimal) > 0 {
		t.Errorf("many alternatives: %v, %d", minimal, e)
	}
	closed := plain(record(shut(present("a", ints))))
	if repairs, e := conflict.Repairs(append(fields, closed)); e != api.OK || !same(repairs, sets{{8}, {0, 1, 2, 3, 4, 5, 6, 7}}) {
		t.Errorf("many fields: %v, %d", repairs, e)
	}
}
