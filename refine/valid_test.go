package refine_test

import (
	"slices"
	"testing"

	"configlang/api"
	"configlang/automaton"
	"configlang/parts"
	"configlang/refine"
	"configlang/scalar"
	"configlang/trial"
	"configlang/value"
)

// list and record are shorter names.
var list, record = trial.List, trial.Record

// around returns valid values around a Val, if it is valid itself.
func around(v api.Val) []api.Value {
	return []api.Value{
		list(api.ListCase{Items: []api.Val{value.Plain(null), v}}),
		list(trial.Closed(), api.ListCase{Items: []api.Val{value.Top()}, Rest: []api.Val{v}}),
		record(trial.Open(trial.Present("a", one), api.Field{Label: "b", Presence: api.Required, Val: v})),
		record(trial.Shut(trial.Present("a", one)), trial.Fields(v, trial.Present("b", one))),
		list(api.ListCase{Items: []api.Val{trial.Marked(top, list(api.ListCase{Items: []api.Val{v}}))}}),
	}
}

// TestWrong checks values that are not valid for one reason, also as parts of other values (P13.2).
func TestWrong(t *testing.T) {
	for i, v := range trial.WrongValues() {
		if refine.Good(v) || isGood(v) {
			t.Errorf("value %d is not valid: %s", i, shown(v))
		}
		for j, u := range slices.Concat(around(value.Plain(v)), around(trial.Marked(v, bottom)), around(trial.Marked(top, v))) {
			if refine.Good(u) || refine.Valid(value.Plain(u)) {
				t.Errorf("value %d in a value of kind %d", i, j)
			}
		}
	}
	for i, v := range trial.Wrong() {
		if refine.Valid(v) || isValid(v) {
			t.Errorf("Val %d is not valid: %s", i, trial.Show(v))
		}
		for j, u := range around(v) {
			if refine.Good(u) {
				t.Errorf("Val %d in a value of kind %d", i, j)
			}
		}
	}
}

// TestRight checks values that are valid, also as parts of other values (P13.2).
func TestRight(t *testing.T) {
	shut, open := trial.Shut, trial.Open
	deep := one
	for range api.MaxDepth - 3 {
		deep = list(api.ListCase{Items: []api.Val{trial.Marked(deep, bottom)}})
	}
	for i, v := range []api.Value{
		top, one, {Scalars: scalar.All()}, list(trial.Longer(top)), record(open()), deep,
		list(trial.Closed()), list(trial.Longer(one)), list(trial.Longer(one, two)), list(trial.Closed(null), trial.Closed(one), trial.Closed(null, null)),
		list(trial.Longer(one, one), trial.Closed(null)),
		record(shut()), record(shut(trial.Present("", one), trial.Required("a", ints))),
		record(shut(trial.Present("a", one)), shut(trial.Present("a", two)), shut(trial.Required("a", null))),
		record(api.StructCase{Classes: []api.Class{trial.Others(value.Top(), "a"), {Set: automaton.Word("a"), Val: value.Plain(one)}}}),
		record(api.StructCase{Classes: []api.Class{trial.Others(value.Top(), "a"), {Set: automaton.Word("a"), Val: trial.Marked(top, one)}}}),
		record(api.StructCase{Classes: []api.Class{{Set: trial.Strs("()|bb.*")}, {Set: trial.Strs("[^b].*|b[^b].*"), Val: value.Top()}, {Set: trial.Strs("b"), Val: value.Plain(one)}}}),
		{Scalars: scalar.All(), Lists: []api.ListCase{trial.Longer(top, one)}, Structs: []api.StructCase{open()}},
		{Scalars: scalar.All(), Lists: []api.ListCase{trial.Longer(top)}, Structs: []api.StructCase{open(trial.Required("a", top))}},
		{Scalars: scalar.All(), Lists: []api.ListCase{trial.Longer(top)}, Structs: []api.StructCase{trial.Fields(trial.Marked(top, one))}},
		{Scalars: scalar.All(), Lists: []api.ListCase{{Rest: []api.Val{trial.Marked(top, one)}}}, Structs: []api.StructCase{open()}},
		{Scalars: scalar.Minus(scalar.All(), one.Scalars), Lists: []api.ListCase{trial.Longer(top)}, Structs: []api.StructCase{open()}},
	} {
		for j, u := range slices.Concat([]api.Value{v}, around(value.Plain(v)), around(trial.Marked(v, bottom)), around(trial.Marked(top, v))) {
			if !refine.Good(u) || !isGood(u) || !refine.Valid(value.Plain(u)) || !refine.Valid(trial.Marked(u, bottom)) || !refine.Valid(trial.Marked(top, u)) {
				t.Errorf("value %d in a value of kind %d: %s", i, j, shown(u))
			}
		}
	}
	// A bottom value has no place in cases, but in classes, and as a value of its own; a bottom default has one everywhere.
	if !refine.Good(bottom) || !refine.Valid(api.Val{}) || !refine.Good(record(trial.Shut())) || !refine.Good(list(api.ListCase{Rest: []api.Val{{V: one}}, Items: []api.Val{{V: one}}})) {
		t.Error("bottom")
	}
}

// TestValid compares Valid and Good with their definition (P13.2).
func TestValid(t *testing.T) {
	x := trial.Random(134)
	yes, no := 0, 0
	for i := range 6000 {
		v := trial.Val(&x, 1+x.Below(3))
		if i%3 > 0 {
			v = changed(&x, made(t, v))
		}
		got := refine.Valid(v)
		if got != isValid(v) {
			t.Fatalf("Valid(%s): %v", trial.Show(v), got)
		}
		if good := refine.Good(v.V); good != isGood(v.V) || got && !good || refine.Valid(value.Plain(v.V)) != good {
			t.Fatalf("Good(%s): %v", shown(v.V), good)
		}
		if got {
			yes++
		} else {
			no++
		}
	}
	if yes < 1500 || no < 1500 {
		t.Errorf("%d values are valid, %d are not", yes, no)
	}
}

// changed changes one part of a Val, so that it is often no longer valid.
func changed(x *trial.Random, v api.Val) api.Val {
	v = parts.CopyVal(v)
	at := &v.V
	for range x.Below(4) {
		if l := valsIn(at); len(l) > 0 {
			u := trial.Pick(x, l...)
			at = trial.Pick(x, &u.V, &u.D)
		}
	}
	switch x.Below(6) {
	case 0:
		shuffle(x, at.Lists)
		shuffle(x, at.Structs)
	case 1:
		*at = trial.Value(x, 2)
	case 2:
		for i := range at.Structs {
			shuffle(x, at.Structs[i].Classes)
		}
	case 3:
		at.Lists = append(at.Lists, trial.ListCase(x, 1))
	case 4:
		at.Structs = append(at.Structs, trial.StructCase(x, 1))
	}
	return v
}

// shuffle exchanges two elements of a list.
func shuffle[T any](x *trial.Random, l []T) {
	if len(l) > 0 {
		i, j := x.Below(len(l)), x.Below(len(l))
		l[i], l[j] = l[j], l[i]
	}
}

// valsIn returns pointers to the Vals in the cases of a value.
func valsIn(v *api.Value) []*api.Val {
	var l []*api.Val
	for _, c := range v.Lists {
		for i := range c.Items {
			l = append(l, &c.Items[i])
		}
		for i := range c.Rest {
			l = append(l, &c.Rest[i])
		}
	}
	for _, c := range v.Structs {
		for i := range c.Fields {
			l = append(l, &c.Fields[i].Val)
		}
		for i := range c.Classes {
			l = append(l, &c.Classes[i].Val)
		}
	}
	return l
}
