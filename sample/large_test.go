package sample_test

import (
	"strconv"
	"testing"

	"configlang/api"
	"configlang/data"
	"configlang/sample"
	"configlang/trial"
)

// TestDeep checks values of the greatest number of levels, and of one more (P20.1 to P20.3).
func TestDeep(t *testing.T) {
	lists, structs := ints, ints
	l, s := whole(0), whole(0)
	for range api.MaxDepth - 1 {
		lists, structs = list(closed(lists)), record(shut(present("a", structs)))
		l, s = items(l), of(member("a", s))
	}
	for i, c := range []struct {
		v api.Value
		d api.Data
	}{{lists, l}, {structs, s}} {
		if got, ok := sample.Least(c.v); !ok || !data.Equal(got, c.d) || data.Depth(got) != api.MaxDepth {
			t.Errorf("case %d: Least is %q", i, texts([]api.Data{got}))
		}
		if got := sample.Variants(c.v); !same(got, []api.Data{c.d}) {
			t.Errorf("case %d: Variants are %q", i, texts(got))
		}
		if got := sample.Grow(c.v, c.d); len(got) > 0 {
			t.Errorf("case %d: Grow is %q", i, texts(got))
		}
	}
	deeper := list(closed(lists))
	if _, ok := sample.Least(deeper); ok || len(sample.Variants(deeper)) > 0 || len(sample.Grow(deeper, items(l))) > 0 {
		t.Error("a value that is too deep")
	}
	// Everything permits data of all levels, but not deeper data.
	if got := sample.Grow(top, l); len(got) != 1 || len(sample.Grow(top, items(l))) > 0 {
		t.Errorf("deep data: %q", texts(got))
	}
}

// TestEndless checks values that contain themselves (P20.1 to P20.3).
func TestEndless(t *testing.T) {
	v := list(closed(one))
	v.Lists[0].Items[0].V = v
	w := record(shut(present("a", one)))
	w.Structs[0].Fields[0].Val.V = w
	for _, u := range []api.Value{v, w} {
		if _, ok := sample.Least(u); ok || len(sample.Variants(u)) > 0 || len(sample.Grow(u, items())) > 0 {
			t.Error("a value that contains itself")
		}
	}
	d := items(null)
	d.Items[0] = d
	if len(sample.Grow(top, d)) > 0 {
		t.Error("data that contains itself")
	}
}

// TestMany checks data with many items and members (P20.3).
func TestMany(t *testing.T) {
	const n = 200
	var l, alternatives []api.Data
	var fields []api.Field
	var members []api.Member
	var cases []api.ListCase
	for i := range n {
		number := trial.Number(int64(i))
		label := "k" + strconv.Itoa(1000+i)
		l = append(l, whole(int64(i)))
		fields = append(fields, present(label, number))
		members = append(members, member(label, whole(int64(i))), member(label+"x", text("x")))
		cases = append(cases, closed(number))
		alternatives = append(alternatives, items(whole(int64(i))))
	}
	if got := sample.Grow(list(longer(ints)), items(l...)); len(got) != 2*n-1 || len(got[n-1].Items) != n-1 || len(got[n].Items) != n {
		t.Errorf("many items: %d", len(got))
	}
	v := record(trial.Open(fields...))
	// The members that are no fields may be left out, and have six other variants than "x" and one that is "".
	if got := sample.Grow(v, of(members...)); len(got) != n+7*n {
		t.Errorf("many members: %d", len(got))
	}
	if got := sample.Variants(trial.Made(plain(list(cases...))).V); len(got) != n || !same(got[:2], alternatives[:2]) {
		t.Errorf("many cases: %d", len(got))
	}
}
