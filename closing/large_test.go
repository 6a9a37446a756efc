package closing_test

import (
	"slices"
	"strconv"
	"testing"

	"configlang/api"
	"configlang/closing"
	"configlang/lang"
	"configlang/parts"
	"configlang/trial"
	"configlang/value"
)

// tower returns a value of a number of levels, each with a struct that leaves labels open or not. Its defaults are the values themselves, or bottom.
func tower(others api.Val, levels int, marks bool) api.Value {
	v := one
	for range levels - 1 {
		d := v
		if marks {
			d = bottom
		}
		v = record(trial.Fields(others, api.Field{Label: "a", Presence: api.Present, Val: marked(v, d)}))
	}
	return v
}

// TestDeep checks values of the greatest number of levels, and of one more (P17.1, P17.2).
func TestDeep(t *testing.T) {
	for _, marks := range []bool{false, true} {
		low, high := tower(value.Bottom(), api.MaxDepth, marks), tower(value.Top(), api.MaxDepth, marks)
		if got, e := closing.Close(plain(high)); e != api.OK || !parts.SameVal(got, plain(low)) {
			t.Errorf("Close: %d", e)
		}
		if got, e := closing.Open(marked(low, bottom)); e != api.OK || !parts.SameVal(got, marked(high, bottom)) {
			t.Errorf("Open: %d", e)
		}
		if closing.Closed(high) || !closing.Closed(low) {
			t.Error("Closed")
		}
		if got, e := closing.Shape(high); e != api.OK || !value.IsTop(got) {
			t.Errorf("Shape of a tower of open structs: %d", e)
		}
		got, e := closing.Shape(low)
		if e != api.OK || value.Depth(got.V) != api.MaxDepth {
			t.Errorf("Shape of a tower of closed structs: %d", e)
		}
		deeper := tower(value.Top(), api.MaxDepth+1, marks)
		_, e = closing.Close(plain(deeper))
		_, e2 := closing.Open(plain(deeper))
		_, e3 := closing.Shape(deeper)
		if e != api.ErrKind || e2 != api.ErrKind || e3 != api.ErrKind || closing.Closed(deeper) {
			t.Errorf("a value that is too deep: %d, %d, %d", e, e2, e3)
		}
	}
}

// TestEndless checks values that contain themselves (P17.1, P17.2).
func TestEndless(t *testing.T) {
	v := list(trial.Closed(one))
	v.Lists[0].Items[0].V = v
	w := record(shut(present("a", one)))
	w.Structs[0].Fields[0].Val.V = w
	for _, u := range []api.Value{v, w} {
		_, e := closing.Close(plain(u))
		_, e2 := closing.Open(plain(u))
		_, e3 := closing.Shape(u)
		if e != api.ErrKind || e2 != api.ErrKind || e3 != api.ErrKind || closing.Closed(u) {
			t.Error("a value that contains itself")
		}
	}
}

// TestMany checks a struct with many fields (P17.1, P17.2).
func TestMany(t *testing.T) {
	const n = 500
	var fields []api.Field
	var labels []string
	set := trial.Strs("[]")
	for i := range n {
		labels = append(labels, "label "+strconv.Itoa(i*i*i))
	}
	slices.Sort(labels)
	for _, label := range labels {
		fields = append(fields, present(label, trial.Number(int64(len(fields)))))
		word, _ := lang.Bound("==", label)
		set = lang.Or(set, word)
	}
	others := lang.Not(set)
	v := record(api.StructCase{Fields: fields, Classes: []api.Class{{Set: others, Val: value.Top()}}})
	c, e := closing.Close(plain(v))
	if want := record(api.StructCase{Fields: fields, Classes: []api.Class{{Set: others}}}); e != api.OK || !parts.SameVal(c, plain(want)) || !closing.Closed(c.V) || closing.Closed(v) {
		t.Errorf("Close of many fields: %d", e)
	}
	if got, e := closing.Open(c); e != api.OK || !parts.SameVal(got, plain(v)) {
		t.Errorf("Open of many fields: %d", e)
	}
	if got, e := closing.Shape(v); e != api.OK || !value.IsTop(got) {
		t.Errorf("Shape of many fields: %d", e)
	}
	want := api.StructCase{Classes: []api.Class{{Set: others}, {Set: set, Val: value.Top()}}}
	if got, e := closing.Shape(c.V); e != api.OK || len(got.V.Structs) != 1 || !parts.Same(record(got.V.Structs[0]), record(want)) {
		t.Errorf("Shape of many fields of a closed struct: %d", e)
	}
}
