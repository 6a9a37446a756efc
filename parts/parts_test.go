package parts_test

import (
	"slices"
	"strconv"
	"testing"

	"configlang/api"
	"configlang/parts"
	"configlang/scalar"
	"configlang/trial"
	"configlang/value"
)

// TestCompare checks that Compare of sound values is that of layer 12, and 0 exactly for those that are the same.
func TestCompare(t *testing.T) {
	x := trial.Random(1)
	same := 0
	for range 3000 {
		v, w := trial.Value(&x, 2), trial.Value(&x, 2)
		if x.Below(3) == 0 {
			w = trial.Lower(&x, v)
		}
		n := parts.Compare(v, w)
		if n != value.Compare(v, w) || n != -parts.Compare(w, v) || (n == 0) != parts.Same(v, w) {
			t.Fatalf("Compare of %s and %s: %d", trial.Show(value.Plain(v)), trial.Show(value.Plain(w)), n)
		}
		if n == 0 {
			same++
		}
		for _, c := range v.Lists {
			for _, d := range w.Lists {
				if parts.CompareLists(c, d) != value.Compare(trial.List(c), trial.List(d)) {
					t.Fatal("CompareLists")
				}
			}
		}
		for _, c := range v.Structs {
			for _, d := range w.Structs {
				if parts.CompareStructs(c, d) != value.Compare(trial.Record(c), trial.Record(d)) {
					t.Fatal("CompareStructs")
				}
			}
		}
	}
	if same < 100 {
		t.Errorf("%d pairs are the same", same)
	}
}

// TestSame checks values that differ in one part, sound or not, and that nil and empty lists are the same.
func TestSame(t *testing.T) {
	one := trial.Number(1)
	l := []api.Value{
		{}, {Any: true}, one, {Any: true, Scalars: one.Scalars}, trial.Number(2), trial.Text("a"), trial.Text("b"),
		{Scalars: api.Scalars{Null: true}}, {Scalars: api.Scalars{False: true}}, {Scalars: api.Scalars{True: true}},
		{Scalars: api.Scalars{Nums: api.Nums{Fracs: one.Scalars.Nums.Ints}}}, {Scalars: api.Scalars{Strs: api.Lang{States: []api.State{{}}}}},
		{Scalars: api.Scalars{Strs: api.Lang{States: []api.State{{Edges: []api.Edge{{}}}}}}},
		trial.List(trial.Closed()), trial.List(trial.Closed(), trial.Closed()), trial.List(trial.Closed(one)), trial.List(trial.Longer(one)), trial.List(api.ListCase{Rest: trial.Plains(one, one)}),
		trial.List(api.ListCase{Items: []api.Val{{V: one}}}), trial.List(api.ListCase{Items: []api.Val{{D: one}}}),
		trial.Record(api.StructCase{}), trial.Record(api.StructCase{}, api.StructCase{}), trial.Record(trial.Open()), trial.Record(trial.Shut()),
		trial.Record(api.StructCase{Fields: []api.Field{trial.Present("a", one)}}), trial.Record(api.StructCase{Fields: []api.Field{trial.Required("a", one)}}),
		trial.Record(api.StructCase{Fields: []api.Field{trial.Present("b", one)}}), trial.Record(api.StructCase{Fields: []api.Field{{Label: "a", Presence: api.Present, Val: api.Val{D: one}}}}),
		trial.Record(api.StructCase{Classes: []api.Class{{}}}), trial.Record(api.StructCase{Classes: []api.Class{{Val: value.Top()}}}), trial.Record(api.StructCase{Classes: []api.Class{{Set: trial.Strs("a")}}}),
	}
	for i, v := range l {
		for j, w := range l {
			if parts.Same(v, w) != (i == j) || parts.SameVal(value.Plain(v), value.Plain(w)) != (i == j) || parts.SameVal(api.Val{V: v}, api.Val{V: w}) != (i == j) || parts.SameVal(api.Val{D: v}, api.Val{D: w}) != (i == j) {
				t.Errorf("values %d and %d", i, j)
			}
		}
		if !parts.Same(v, parts.Copy(v)) || !parts.SameVal(api.Val{V: v}, parts.CopyVal(api.Val{V: v})) {
			t.Errorf("a copy of value %d", i)
		}
	}
	empty := api.Value{Scalars: api.Scalars{Nums: api.Nums{Ints: []api.Span{}, Fracs: []api.Span{}}, Strs: api.Lang{States: []api.State{}}}, Lists: []api.ListCase{}, Structs: []api.StructCase{}}
	if !parts.Same(empty, api.Value{}) || !parts.Same(parts.Copy(empty), api.Value{}) {
		t.Error("empty lists")
	}
}

// TestEach checks Each.
func TestEach(t *testing.T) {
	l := []int{1, 2, 3}
	if got := parts.Each(l, func(n int) int { return n * n }); !slices.Equal(got, []int{1, 4, 9}) || !slices.Equal(l, []int{1, 2, 3}) {
		t.Errorf("Each: %v", got)
	}
	if got := parts.Each(l, strconv.Itoa); !slices.Equal(got, []string{"1", "2", "3"}) {
		t.Errorf("Each of another type: %v", got)
	}
	if parts.Each([]int{}, func(n int) int { return n }) != nil {
		t.Error("Each of no elements")
	}
}

// TestResolved checks defaults, and values of which none is left.
func TestResolved(t *testing.T) {
	one, two := trial.Number(1), trial.Number(2)
	for i, c := range []struct{ v, d, want api.Value }{
		{one, one, one}, {trial.Kind("int"), two, two}, {one, api.Value{}, one}, {value.Top().V, api.Value{}, value.Top().V}, {value.Top().V, value.Top().V, value.Top().V}, {api.Value{}, api.Value{}, api.Value{}},
		{value.Top().V, trial.List(trial.Closed()), trial.List(trial.Closed())}, {value.Top().V, trial.Record(trial.Open()), trial.Record(trial.Open())},
	} {
		if got := parts.Resolved(api.Val{V: c.v, D: c.d}); !parts.Same(got, c.want) {
			t.Errorf("case %d: %s", i, trial.Show(value.Plain(got)))
		}
	}
}

// TestAlternatives checks how many alternatives values have.
func TestAlternatives(t *testing.T) {
	lists, structs := []api.ListCase{trial.Closed(), trial.Longer(value.Top().V)}, []api.StructCase{trial.Open()}
	for i, c := range []struct {
		v    api.Value
		want int
	}{
		{api.Value{}, 0}, {value.Top().V, 0}, {trial.Number(1), 1}, {trial.Kind("int"), 1}, {trial.Kind("null"), 1}, {trial.Text("a"), 1}, {api.Value{Lists: lists}, 2}, {api.Value{Structs: structs}, 1},
		{api.Value{Lists: lists, Structs: structs}, 3}, {api.Value{Scalars: scalar.All(), Lists: lists, Structs: structs}, 4},
	} {
		if got := parts.Alternatives(c.v); got != c.want {
			t.Errorf("case %d: %d", i, got)
		}
	}
}

// TestEverything checks everything that is written out, and values that lack something.
func TestEverything(t *testing.T) {
	lists, structs := []api.ListCase{trial.Longer(value.Top().V)}, []api.StructCase{trial.Open()}
	if !parts.Everything(api.Value{Scalars: scalar.All(), Lists: lists, Structs: structs}) {
		t.Error("everything")
	}
	noNull := scalar.All()
	noNull.Null = false
	for i, v := range []api.Value{
		{}, value.Top().V, {Scalars: scalar.All()}, {Scalars: scalar.All(), Lists: lists}, {Scalars: scalar.All(), Structs: structs}, {Lists: lists, Structs: structs},
		{Scalars: noNull, Lists: lists, Structs: structs},
		{Scalars: scalar.All(), Lists: []api.ListCase{{}}, Structs: structs},
		{Scalars: scalar.All(), Lists: []api.ListCase{trial.Longer(value.Top().V, value.Top().V)}, Structs: structs},
		{Scalars: scalar.All(), Lists: []api.ListCase{{Rest: []api.Val{{V: value.Top().V}}}}, Structs: structs},
		{Scalars: scalar.All(), Lists: lists, Structs: []api.StructCase{trial.Shut()}},
		{Scalars: scalar.All(), Lists: lists, Structs: []api.StructCase{trial.Open(trial.Present("a", value.Top().V))}},
		{Scalars: scalar.All(), Lists: lists, Structs: []api.StructCase{trial.Fields(api.Val{V: value.Top().V})}},
	} {
		if parts.Everything(v) {
			t.Errorf("value %d", i)
		}
	}
}
