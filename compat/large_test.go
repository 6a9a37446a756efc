package compat_test

import (
	"slices"
	"strconv"
	"testing"

	"configlang/api"
	"configlang/automaton"
	"configlang/compat"
	"configlang/lang"
	"configlang/parts"
	"configlang/refine"
	"configlang/semver"
	"configlang/steps"
	"configlang/trial"
)

// many returns the value of structs with n labels that have a number each, from one on, and others that have none. The labels are optional, or present.
func many(n int, prefix string, from int, present bool) api.Value {
	var c api.StructCase
	var labels []string
	for i := range n {
		label, v := prefix+strconv.Itoa(n+i), plain(trial.Number(int64(from+i)))
		labels = append(labels, label)
		if present {
			c.Fields = append(c.Fields, api.Field{Label: label, Presence: api.Present, Val: v})
		} else {
			c.Classes = append(c.Classes, api.Class{Set: automaton.Word(label), Val: v})
		}
	}
	c.Classes = append(c.Classes, api.Class{Set: lang.Not(parts.Strings(labels))})
	return made(record(c))
}

// TestMany checks structs with many labels that all have a Val of their own (P51.1, P51.3).
func TestMany(t *testing.T) {
	const n = 1000
	for i, c := range []struct {
		old, new             api.Value
		change, paths, steps int
	}{
		{many(n, "f", 0, false), many(n, "f", 1, false), semver.MajorChange, n, n}, {many(n, "f", 0, false), many(n, "g", 0, false), semver.MajorChange, n, n}, {many(n, "f", 0, false), many(n, "f", 0, true), semver.MajorChange, n, n}, {many(n, "f", 0, true), many(n, "f", 0, false), semver.MinorChange, 0, 0},
		{many(n, "f", 0, true), many(n, "f", 1, true), semver.MajorChange, n, n}, {many(n, "f", 0, true), many(n, "g", 0, true), semver.MajorChange, 2 * n, 2 * n}, {many(n, "f", 0, false), many(n, "f", 0, false), semver.PatchChange, 0, 0},
		{record(shut(present("a", many(n, "f", 0, true)), present("b", one))), record(shut(present("a", many(n, "f", 1, true)), present("b", two))), semver.MajorChange, n + 1, 2*n + 1},
	} {
		got, e := compat.Change(c.old, c.new)
		l, f := compat.Breaking(c.old, c.new)
		total := 0
		for _, path := range l {
			total += len(path)
		}
		if got != c.change || e != api.OK || len(l) != c.paths || total != c.steps || f != api.OK || !slices.IsSortedFunc(l, steps.Compare) {
			t.Errorf("case %d: %d, %d; %d paths with %d steps, %d", i, got, e, len(l), total, f)
		}
	}
}

// nested returns the value of structs in structs, whose labels are present on a number of levels, with a value at the last one.
func nested(levels int, v api.Value) api.Value {
	for range levels {
		v = record(open(present("a", v), present("b", v)))
	}
	return v
}

// TestDeep checks values of the number of levels for which the promises hold, and deeper ones (P51.1, P51.3).
func TestDeep(t *testing.T) {
	const levels = api.MaxDepth/2 - 1
	if n, l := check(t, nested(levels, ints), nested(levels, one)); n != semver.MajorChange || len(l) != 1<<levels || len(l[0]) != levels {
		t.Errorf("from int to 1: %d, %d paths", n, len(l))
	}
	if n, l := check(t, nested(levels, one), nested(levels, ints)); n != semver.MinorChange || len(l) != 0 {
		t.Errorf("from 1 to int: %d, %d paths", n, len(l))
	}
	if n, l := check(t, nested(levels, one), nested(levels-1, one)); n != semver.MajorChange || len(l) != 1<<(levels-1) || len(l[0]) != levels-1 {
		t.Errorf("from a struct to 1: %d, %d paths", n, len(l))
	}
	low, high := one, ints
	for range api.MaxDepth - 1 {
		low = record(open(api.Field{Label: "a", Presence: api.Present, Val: marked(low, bottom)}))
		high = record(open(api.Field{Label: "a", Presence: api.Present, Val: marked(high, bottom)}))
	}
	if !refine.Good(low) || !refine.Good(high) {
		t.Fatal("the greatest depth is not valid")
	}
	if l, e := compat.Breaking(high, low); e != api.OK || len(l) != 1 || len(l[0]) != api.MaxDepth-1 {
		t.Errorf("the greatest depth: %s, %d", written(l), e)
	}
	if n, e := compat.Change(low, high); e != api.OK || n != semver.MinorChange {
		t.Errorf("the greatest depth: %d, %d", n, e)
	}
}

// TestLong checks a history of many entries (P51.4).
func TestLong(t *testing.T) {
	var l []compat.Entry
	var want []int
	for i := range 2000 {
		x := compat.Entry{Version: version(i/100, i/10%10, i%10), Val: plain(trial.Number(int64(i / 7)))}
		// Each seventh entry is a major change, for which the version is great enough each hundredth time, and before version 1 each tenth time.
		if i > 0 && i%7 == 0 && i%100 != 0 && (i > 100 || i%10 != 0) {
			want = append(want, i)
		}
		l = append(l, x)
	}
	if got, e := compat.History(l); !slices.Equal(got, want) || e != api.OK {
		t.Errorf("%d entries, %d, want %d", len(got), e, len(want))
	}
}
