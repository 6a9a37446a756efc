package refine_test

import (
	"strconv"
	"testing"

	"configlang/api"
	"configlang/lang"
	"configlang/parts"
	"configlang/refine"
	"configlang/trial"
	"configlang/value"
)

// TestDeep checks values of the greatest number of levels, in which each default is the value itself, or another one (P13.1 to P13.3).
func TestDeep(t *testing.T) {
	for i, wrap := range []func(api.Val) api.Value{
		func(v api.Val) api.Value { return list(api.ListCase{Items: []api.Val{v}}) },
		func(v api.Val) api.Value { return list(api.ListCase{Rest: []api.Val{v}}) },
		func(v api.Val) api.Value {
			return record(trial.Shut(api.Field{Label: "a", Presence: api.Required, Val: v}))
		},
		func(v api.Val) api.Value { return record(trial.Fields(v)) },
	} {
		low, high, mixed := one, ints, one
		for range api.MaxDepth - 1 {
			mixed = wrap(trial.Marked(mixed, low))
			low, high = wrap(value.Plain(low)), wrap(value.Plain(high))
		}
		if value.Depth(high) != api.MaxDepth || !refine.Below(low, high) || refine.Below(high, low) || !refine.Below(mixed, high) || !refine.Good(mixed) {
			t.Errorf("kind %d: the order", i)
		}
		for _, v := range []api.Val{value.Plain(high), trial.Marked(high, low), trial.Marked(high, mixed), value.Plain(mixed)} {
			if got, e := refine.Make(v); e != api.OK || !parts.SameVal(got, v) {
				t.Errorf("kind %d: Make: %d", i, e)
			}
		}
		if _, e := refine.Make(trial.Marked(low, high)); e != api.ErrKind {
			t.Errorf("kind %d: Make of a default above its value: %d", i, e)
		}
		deeper := wrap(value.Plain(low))
		if _, e := refine.Make(value.Plain(deeper)); e != api.ErrKind || refine.Good(deeper) || refine.Below(deeper, top) || refine.Leq(value.Plain(bottom), value.Plain(deeper)) {
			t.Errorf("kind %d: too deep", i)
		}
		if len(refine.Lists(deeper.Lists)) > 0 || len(refine.Structs(deeper.Structs)) > 0 {
			t.Errorf("kind %d: cases that are too deep", i)
		}
	}
}

// TestEndless checks values that contain themselves (P13.1 to P13.4).
func TestEndless(t *testing.T) {
	v := list(api.ListCase{Items: []api.Val{value.Plain(one)}})
	v.Lists[0].Items[0].V = v
	w := record(trial.Open(trial.Present("a", one)))
	w.Structs[0].Fields[0].Val.V = w
	for _, u := range []api.Value{v, w} {
		if _, e := refine.Make(value.Plain(u)); e != api.ErrKind || refine.Good(u) || refine.Below(u, top) || refine.Below(u, u) || refine.Leq(value.Top(), value.Plain(u)) {
			t.Error("a value that contains itself")
		}
		if len(refine.Lists(u.Lists)) > 0 || len(refine.Structs(u.Structs)) > 0 {
			t.Error("cases that contain themselves")
		}
	}
}

// TestMany checks values with many cases, fields, items and classes (P13.1 to P13.4).
func TestMany(t *testing.T) {
	const n = 150
	var fields []api.Field
	var cases []api.ListCase
	var items []api.Value
	classes := []api.Class{trial.Others(value.Top())}
	for i := range n {
		label := "k" + strconv.Itoa(1000+i)
		fields = append(fields, trial.Present(label, trial.Number(int64(i))))
		cases = append(cases, trial.Closed(trial.Number(int64(n-i))))
		items = append(items, trial.Number(int64(i)))
		if i < 20 {
			set := trial.Strs(label + "x+")
			classes = append(classes, api.Class{Set: set, Val: value.Plain(trial.Number(int64(i / 2)))})
		}
	}
	var labels []api.Class
	rest := trial.Strs(".*")
	for _, k := range classes[1:] {
		labels = append(labels, k)
		rest = lang.Minus(rest, k.Set)
	}
	labels = append(labels, api.Class{Set: rest, Val: value.Top()})
	v := api.Value{Lists: append(cases, trial.Closed(items...)), Structs: []api.StructCase{trial.Open(fields...), {Classes: labels}}}
	m, e := refine.Make(value.Plain(v))
	if e != api.OK || !isGood(m.V) || !refine.Valid(m) || len(m.V.Lists) != n+1 || len(m.V.Structs) != 2 || len(m.V.Structs[0].Classes) != 11 {
		t.Fatalf("Make: %d", e)
	}
	sorted := made(t, value.Plain(list(cases...))).V
	if !refine.Below(record(trial.Open(fields...)), m.V) || !refine.Below(sorted, m.V) || !refine.Below(sorted, list(trial.Longer(ints))) || refine.Below(m.V, list(trial.Longer(ints))) || refine.Below(m.V, sorted) {
		t.Error("the order")
	}
	if got := refine.Lists(append(cases, trial.Longer(ints))); len(got) != 1 {
		t.Errorf("%d lists", len(got))
	}
}
