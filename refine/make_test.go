package refine_test

import (
	"slices"
	"testing"

	"configlang/api"
	"configlang/automaton"
	"configlang/parts"
	"configlang/refine"
	"configlang/scalar"
	"configlang/trial"
	"configlang/value"
)

// TestMake compares Make with its definition (P13.3), and checks that it leaves valid Vals as they are (P13.5).
func TestMake(t *testing.T) {
	x := trial.Random(135)
	ok, wrong, alike := 0, 0, 0
	for i := range 4000 {
		v := trial.Val(&x, 1+x.Below(3))
		if i%4 == 0 {
			v = changed(&x, v)
		}
		before := parts.CopyVal(v)
		got, e := refine.Make(v)
		if !parts.SameVal(v, before) {
			t.Fatalf("Make changes %s", trial.Show(before))
		}
		right := value.Sound(v)
		want := api.Val{}
		if right {
			want = formVal(v, &right)
		}
		if !right {
			wrong++
			if e != api.ErrKind || !parts.SameVal(got, api.Val{}) {
				t.Fatalf("Make(%s): %s, %d", trial.Show(v), trial.Show(got), e)
			}
			continue
		}
		if e != api.OK || !parts.SameVal(got, want) || !refine.Valid(got) {
			t.Fatalf("Make(%s): %s, %d, want %s", trial.Show(v), trial.Show(got), e, trial.Show(want))
		}
		if again, e := refine.Make(got); e != api.OK || !value.Equal(again, got) {
			t.Fatalf("Make(%s): %s, %d", trial.Show(got), trial.Show(again), e)
		}
		if refine.Valid(v) {
			alike++
			if !parts.SameVal(got, v) {
				t.Fatalf("Make(%s): %s", trial.Show(v), trial.Show(got))
			}
		}
		for range 10 {
			if d := trial.Data(&x, 3); trial.Has(v.V, d) != trial.Has(got.V, d) {
				t.Fatalf("Make(%s): %s, for %v", trial.Show(v), trial.Show(got), d)
			}
		}
		ok++
	}
	if ok < 2000 || wrong < 100 || alike < 500 {
		t.Errorf("%d values are made, %d are wrong, %d were valid already", ok, wrong, alike)
	}
}

// TestMakeCases checks what Make leaves out, unites and sorts (P13.3).
func TestMakeCases(t *testing.T) {
	open, shut, closed, longer := trial.Open, trial.Shut, trial.Closed, trial.Longer
	present, required := trial.Present, trial.Required
	a, noA := automaton.Word("a"), trial.Others(value.Top(), "a").Set
	all := api.Value{Scalars: scalar.All(), Lists: []api.ListCase{longer(top)}, Structs: []api.StructCase{open()}}
	halves := record(api.StructCase{Classes: []api.Class{{Set: a, Val: value.Top()}, {Set: noA, Val: value.Top()}}})
	for i, c := range []struct{ v, want api.Value }{
		{list(closed(one, bottom)), bottom},
		{list(closed(bottom), closed(one)), list(closed(one))},
		{list(longer(bottom, one)), list(closed(one))},
		{list(longer(bottom, bottom)), bottom},
		{record(open(present("a", bottom))), bottom},
		{record(open(present("a", one), required("b", bottom)), shut()), record(shut())},
		{record(trial.Fields(value.Bottom(), present("a", one))), record(shut(present("a", one)))},
		{list(closed(list(closed(bottom)))), bottom},
		{list(closed(one, record(open(present("a", list(closed(bottom))))))), bottom},
		{list(longer(list(closed(bottom)))), list(closed())},
		{list(closed(one), longer(list(closed(bottom)))), list(closed(), closed(one))},
		{halves, record(open())},
		{record(api.StructCase{Classes: []api.Class{{Set: a, Val: value.Plain(one)}, {Set: noA, Val: value.Plain(list(closed(bottom)))}}}),
			record(api.StructCase{Classes: []api.Class{{Set: noA}, {Set: a, Val: value.Plain(one)}}})},
		{record(api.StructCase{Classes: []api.Class{{Set: a}, {Set: noA, Val: value.Plain(list(closed(bottom)))}}}), record(shut())},
		{list(closed(two), closed(one), closed(two), closed(ints)), list(closed(ints))},
		{list(closed(two), closed(one), closed(two)), list(closed(one), closed(two))},
		{list(closed(one, one), closed(two), longer(one, one)), list(longer(one, one), closed(two))},
		{record(shut(present("b", one)), shut(present("a", one)), shut(present("a", one))), record(shut(present("a", one)), shut(present("b", one)))},
		{record(shut(present("a", one)), shut(present("b", one)), open(present("a", ints))), record(open(present("a", ints)), shut(present("b", one)))},
		{all, top},
		{api.Value{Scalars: scalar.All(), Lists: []api.ListCase{closed(), longer(top), longer(one, two)}, Structs: []api.StructCase{shut(), halves.Structs[0]}}, top},
		{list(closed(all)), list(closed(top))},
		{api.Value{Scalars: scalar.All(), Lists: []api.ListCase{longer(all)}, Structs: []api.StructCase{trial.Fields(value.Plain(all))}}, top},
		{top, top}, {bottom, bottom}, {one, one},
		{api.Value{Scalars: scalar.All(), Lists: []api.ListCase{longer(top), closed()}}, api.Value{Scalars: scalar.All(), Lists: []api.ListCase{longer(top)}}},
	} {
		want := value.Plain(c.want)
		if got, e := refine.Make(value.Plain(c.v)); e != api.OK || !parts.SameVal(got, want) {
			t.Errorf("case %d: %s, %d, want %s", i, trial.Show(got), e, trial.Show(want))
		}
		if got, e := refine.Make(trial.Marked(c.v, bottom)); e != api.OK || !parts.SameVal(got, trial.Marked(c.want, bottom)) {
			t.Errorf("case %d with a default: %s, %d", i, trial.Show(got), e)
		}
		if got, e := refine.Make(trial.Marked(top, c.v)); e != api.OK || !parts.SameVal(got, trial.Marked(top, c.want)) {
			t.Errorf("case %d as a default: %s, %d", i, trial.Show(got), e)
		}
	}
}

// TestMakeDefaults checks that classes with different defaults stay apart, and which defaults are errors (P13.3).
func TestMakeDefaults(t *testing.T) {
	a, noA := automaton.Word("a"), trial.Others(value.Top(), "a").Set
	classes := record(api.StructCase{Classes: []api.Class{{Set: noA, Val: trial.Marked(ints, one)}, {Set: a, Val: trial.Marked(ints, two)}}})
	if got, e := refine.Make(value.Plain(classes)); e != api.OK || !parts.SameVal(got, value.Plain(classes)) {
		t.Errorf("classes: %s, %d", trial.Show(got), e)
	}
	emptied := list(trial.Closed(bottom))
	for i, v := range []api.Val{
		trial.Marked(one, emptied),
		trial.Marked(list(trial.Closed(one)), list(trial.Closed(one), trial.Longer(bottom, one))),
		trial.Marked(list(trial.Longer(bottom)), list(trial.Closed(), trial.Closed(bottom))),
		trial.Marked(emptied, emptied),
	} {
		if got, e := refine.Make(v); e != api.OK || !isValid(got) {
			t.Errorf("Val %d: %s, %d", i, trial.Show(got), e)
		}
	}
	for i, v := range []api.Val{
		trial.Marked(one, two), trial.Marked(bottom, one), trial.Marked(one, top), trial.Marked(emptied, list(trial.Closed(one))),
		trial.Marked(list(trial.Longer(bottom)), list(trial.Longer(one))),
		{D: one},
	} {
		// Parts that are left out are examined, too: a bottom Rest, cases with bottom Items and fields, cases that are below others, and defaults of them.
		outer := []api.Val{v, trial.Marked(top, list(api.ListCase{Rest: []api.Val{v}}))}
		for _, u := range append(around(v),
			list(api.ListCase{Items: []api.Val{{}, v}}),
			list(trial.Longer(top), api.ListCase{Items: []api.Val{v}}),
			record(trial.Open(trial.Present("a", bottom), api.Field{Label: "b", Presence: api.Present, Val: v})),
			record(trial.Open(), trial.Fields(v)),
		) {
			outer = append(outer, value.Plain(u), trial.Marked(top, u), trial.Marked(u, bottom))
		}
		for j, u := range outer {
			if got, e := refine.Make(u); e != api.ErrKind || !parts.SameVal(got, api.Val{}) {
				t.Errorf("Val %d in Val %d: %s, %d", i, j, trial.Show(got), e)
			}
		}
	}
	for i, v := range trial.Unsound() {
		for _, u := range []api.Val{value.Plain(v), trial.Marked(v, bottom), trial.Marked(top, v), value.Plain(list(trial.Closed(v)))} {
			if got, e := refine.Make(u); e != api.ErrKind || !parts.SameVal(got, api.Val{}) {
				t.Errorf("value %d, which is not sound: %s, %d", i, trial.Show(got), e)
			}
		}
	}
}

// TestCases compares Lists and Structs with their definitions (P13.4).
func TestCases(t *testing.T) {
	x := trial.Random(136)
	for range 2000 {
		v := trial.Value(&x, 3)
		for range 3 {
			m := made(t, trial.Val(&x, 3)).V
			v.Lists = append(v.Lists, m.Lists...)
			v.Structs = append(v.Structs, m.Structs...)
		}
		shuffle(&x, v.Lists)
		shuffle(&x, v.Structs)
		if x.Below(2) == 0 {
			v = changed(&x, trial.Marked(v, bottom)).V
		}
		before := parts.Copy(v)
		lists, structs := refine.Lists(v.Lists), refine.Structs(v.Structs)
		wantLists := topmost(slices.DeleteFunc(slices.Clone(v.Lists), func(c api.ListCase) bool { return !isGood(alone(c)) }))
		wantStructs := topmost(slices.DeleteFunc(slices.Clone(v.Structs), func(c api.StructCase) bool { return !isGood(alone(c)) }))
		if !parts.Same(list(lists...), list(wantLists...)) {
			t.Fatalf("Lists(%s): %s", shown(list(v.Lists...)), shown(list(lists...)))
		}
		if !parts.Same(record(structs...), record(wantStructs...)) {
			t.Fatalf("Structs(%s): %s", shown(record(v.Structs...)), shown(record(structs...)))
		}
		if !parts.Same(v, before) {
			t.Fatalf("Lists or Structs changes %s", shown(before))
		}
	}
	if len(refine.Lists(nil)) > 0 || len(refine.Structs(nil)) > 0 {
		t.Error("no cases")
	}
}

// TestCasesAlone checks cases that are not valid, equal, or below others (P13.4).
func TestCasesAlone(t *testing.T) {
	closed, longer, open := trial.Closed, trial.Longer, trial.Open
	for i, c := range []struct{ l, want []api.ListCase }{
		{[]api.ListCase{closed(one), closed(bottom), closed(one)}, []api.ListCase{closed(one)}},
		{[]api.ListCase{closed(two), closed(one), closed(ints)}, []api.ListCase{closed(ints)}},
		{[]api.ListCase{longer(bottom), longer(one, one), closed(one)}, []api.ListCase{longer(one, one)}},
		{[]api.ListCase{{Rest: trial.Plains(top, top)}, closed(null, null), closed(one), closed()}, []api.ListCase{closed(), closed(one), closed(null, null)}},
		{[]api.ListCase{{Items: []api.Val{trial.Marked(one, two)}}, closed(one)}, []api.ListCase{closed(one)}},
		{[]api.ListCase{longer(top)}, []api.ListCase{longer(top)}},
	} {
		if got := refine.Lists(c.l); !parts.Same(list(got...), list(c.want...)) {
			t.Errorf("lists %d: %s", i, shown(list(got...)))
		}
	}
	half := api.StructCase{Classes: []api.Class{{Set: automaton.Word("a"), Val: value.Top()}}}
	for i, c := range []struct{ l, want []api.StructCase }{
		{[]api.StructCase{open(trial.Present("a", one)), half, open(trial.Present("a", bottom)), open(trial.Required("a", one))}, []api.StructCase{open(trial.Required("a", one))}},
		{[]api.StructCase{open(trial.Present("b", one)), open(trial.Present("a", one)), open(trial.Present("b", one))}, []api.StructCase{open(trial.Present("a", one)), open(trial.Present("b", one))}},
		{[]api.StructCase{open(), trial.Shut(), open()}, []api.StructCase{open()}},
	} {
		if got := refine.Structs(c.l); !parts.Same(record(got...), record(c.want...)) {
			t.Errorf("structs %d: %s", i, shown(record(got...)))
		}
	}
}
