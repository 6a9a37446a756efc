package disjoin_test

import (
	"strconv"
	"testing"

	"configlang/api"
	"configlang/disjoin"
	"configlang/parts"
	"configlang/trial"
	"configlang/value"
)

// tower returns a value of a number of levels, which differ in one part on the last one.
func tower(v api.Value, levels int, structs bool) api.Value {
	for range levels - 1 {
		if structs {
			v = record(trial.Fields(plain(v)))
		} else {
			v = list(trial.Longer(v))
		}
	}
	return v
}

// TestDeep checks values of the greatest number of levels, and of one more (P15.1 to P15.3).
func TestDeep(t *testing.T) {
	for _, structs := range []bool{false, true} {
		low, high, other := tower(one, api.MaxDepth, structs), tower(ints, api.MaxDepth, structs), tower(null, api.MaxDepth, structs)
		if got, e := disjoin.Union(low, high); e != api.OK || !parts.Same(got, high) {
			t.Errorf("Union with a greater value: %d", e)
		}
		if got, e := disjoin.Union(low, other); e != api.OK || len(got.Lists)+len(got.Structs) != 2 || !disjoin.Ambiguous(plain(got)) {
			t.Errorf("Union with another value: %d", e)
		}
		if got, e := disjoin.Or([]api.Val{plain(low), plain(high)}, []bool{true, false}); e != api.OK || !parts.SameVal(got, marked(high, low)) || !parts.Same(disjoin.Resolve(got), low) {
			t.Errorf("Or: %d", e)
		}
		deeper := tower(one, api.MaxDepth+1, structs)
		if _, e := disjoin.Union(deeper, top); e != api.ErrKind {
			t.Errorf("Union of a value that is too deep: %d", e)
		}
		if _, e := disjoin.Prefer(value.Top(), deeper); e != api.ErrKind {
			t.Errorf("Prefer of a value that is too deep: %d", e)
		}
		if !value.IsBottom(disjoin.Resolve(plain(deeper))) || disjoin.Ambiguous(plain(deeper)) {
			t.Error("Resolve of a value that is too deep")
		}
	}
}

// TestEndless checks values that contain themselves (P15.1 to P15.3).
func TestEndless(t *testing.T) {
	v := list(trial.Closed(one))
	v.Lists[0].Items[0].V = v
	w := record(trial.Open(present("a", one)))
	w.Structs[0].Fields[0].Val.V = w
	for _, u := range []api.Value{v, w} {
		_, e := disjoin.Join(plain(u), value.Top())
		_, e2 := disjoin.Union(top, u)
		_, e3 := disjoin.Or([]api.Val{plain(u)}, []bool{true})
		_, e4 := disjoin.Prefer(plain(u), top)
		if e != api.ErrKind || e2 != api.ErrKind || e3 != api.ErrKind || e4 != api.ErrKind {
			t.Error("a value that contains itself")
		}
		if !value.IsBottom(disjoin.Resolve(plain(u))) || !value.IsBottom(disjoin.Forget(plain(u)).V) || disjoin.Ambiguous(plain(u)) {
			t.Error("what a value that contains itself is resolved to")
		}
	}
}

// TestMany checks disjunctions of many Vals (P15.2).
func TestMany(t *testing.T) {
	const n = 1500
	var l, strings []api.Val
	var marks []bool
	for i := range n {
		l = append(l, plain(list(trial.Closed(trial.Number(int64(i%300))))), plain(trial.Number(int64(2*i))))
		marks = append(marks, false, i < 2)
		strings = append(strings, plain(trial.Text("text "+strconv.Itoa(i))))
	}
	got, e := disjoin.Or(l, marks)
	if e != api.OK || len(got.V.Lists) != 300 || len(got.V.Scalars.Nums.Ints) != n || len(got.D.Lists) != 0 || !parts.Same(got.D, scalars(trial.Number(0), two)) {
		t.Errorf("many cases and numbers: %d", e)
	}
	got, e = disjoin.Or(strings, make([]bool, n))
	set := trial.Strs("text ([0-9]|[1-9][0-9]|[1-9][0-9][0-9]|1[0-4][0-9][0-9])")
	if e != api.OK || !parts.SameVal(got, plain(api.Value{Scalars: api.Scalars{Strs: set}})) {
		t.Errorf("many strings: %d", e)
	}
}
