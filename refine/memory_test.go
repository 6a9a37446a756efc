package refine_test

import (
	"testing"

	"configlang/api"
	"configlang/parts"
	"configlang/refine"
	"configlang/trial"
)

// TestMemory checks that results share no memory with arguments, nor their parts with each other (P13.3, P13.4).
func TestMemory(t *testing.T) {
	x := trial.Random(137)
	for range 1500 {
		v := parts.CopyVal(trial.Val(&x, 3))
		if trial.Shares(v) {
			t.Fatal("the argument shares memory with itself")
		}
		if m, e := refine.Make(v); e != api.OK || trial.Shares(v, m) {
			t.Fatalf("Make(%s): %d", trial.Show(v), e)
		}
		m := parts.CopyVal(made(t, v))
		if again, e := refine.Make(m); e != api.OK || trial.Shares(m, again) {
			t.Fatalf("Make(%s): %d", trial.Show(m), e)
		}
		if trial.Shares(m, api.Val{V: list(refine.Lists(m.V.Lists)...), D: record(refine.Structs(m.V.Structs)...)}) {
			t.Fatalf("cases of %s", trial.Show(m))
		}
	}
}

// TestArguments checks that the order and Valid leave their arguments as they are, and the memory behind them (P13.1, P13.2).
func TestArguments(t *testing.T) {
	x := trial.Random(138)
	for range 500 {
		a, b := pair(t, &x)
		u, v := parts.CopyVal(a), parts.CopyVal(b)
		refine.Leq(u, v)
		refine.Below(v.V, u.V)
		refine.Valid(u)
		if !parts.SameVal(u, a) || !parts.SameVal(v, b) {
			t.Fatalf("%s or %s is changed", trial.Show(a), trial.Show(b))
		}
	}
	items := trial.Plains(one, two, null)
	short := list(api.ListCase{Items: items[:2], Rest: trial.Plains(one)})
	if !refine.Below(short, list(trial.Longer(ints))) || !parts.SameVal(items[2], trial.Plains(null)[0]) {
		t.Error("the memory behind the items")
	}
	cases := []api.ListCase{trial.Closed(null), trial.Closed(one), trial.Closed(two)}
	if !refine.Good(list(cases[:2]...)) || !parts.Same(list(cases...), list(trial.Closed(null), trial.Closed(one), trial.Closed(two))) {
		t.Error("the memory behind the cases")
	}
}
