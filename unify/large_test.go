package unify_test

import (
	"strconv"
	"testing"

	"configlang/api"
	"configlang/lang"
	"configlang/parts"
	"configlang/trial"
	"configlang/unify"
	"configlang/value"
)

// wraps returns functions that make a value of a Val, one for each kind of part.
func wraps() []func(api.Val) api.Value {
	return []func(api.Val) api.Value{
		func(v api.Val) api.Value { return list(api.ListCase{Items: []api.Val{v}}) },
		func(v api.Val) api.Value { return list(api.ListCase{Rest: []api.Val{v}}) },
		func(v api.Val) api.Value {
			return record(trial.Shut(api.Field{Label: "a", Presence: api.Required, Val: v}))
		},
		func(v api.Val) api.Value { return record(trial.Fields(v)) },
	}
}

// tower returns a value of a number of levels, with defaults that are the values themselves, or bottom.
func tower(v api.Value, wrap func(api.Val) api.Value, levels int, marked bool) api.Value {
	for range levels - 1 {
		if marked {
			v = wrap(trial.Marked(v, bottom))
		} else {
			v = wrap(value.Plain(v))
		}
	}
	return v
}

// TestDeep checks values of the greatest number of levels, and of one more (P14.1, P14.3).
func TestDeep(t *testing.T) {
	for i, wrap := range wraps() {
		for _, marked := range []bool{false, true} {
			low, high, other := tower(one, wrap, api.MaxDepth, marked), tower(ints, wrap, api.MaxDepth, marked), tower(two, wrap, api.MaxDepth, marked)
			if got, e := unify.Meet(low, high); e != api.OK || !parts.Same(got, low) {
				t.Errorf("kind %d: Meet: %d", i, e)
			}
			if got, e := unify.Unify(value.Plain(high), trial.Marked(high, low)); e != api.OK || !parts.SameVal(got, trial.Marked(high, low)) {
				t.Errorf("kind %d: Unify: %d", i, e)
			}
			// What is left of lists of other items is the empty list, and of struct cases without fields the empty struct.
			left := i == 1 || i == 3
			if unify.Conflict(value.Plain(low), value.Plain(other)) == left {
				t.Errorf("kind %d: Conflict", i)
			}
			deeper := tower(one, wrap, api.MaxDepth+1, marked)
			if _, e := unify.Meet(deeper, top); e != api.ErrKind {
				t.Errorf("kind %d: Meet of a value that is too deep: %d", i, e)
			}
			if _, e := unify.Unify(value.Plain(deeper), value.Bottom()); e != api.ErrKind {
				t.Errorf("kind %d: Unify of a value that is too deep: %d", i, e)
			}
			for _, c := range deeper.Lists {
				if _, ok := unify.Sequences(c, trial.Longer(top)); ok {
					t.Errorf("kind %d: Sequences of a case that is too deep", i)
				}
			}
			for _, c := range deeper.Structs {
				if _, ok := unify.Cases(trial.Open(), c); ok {
					t.Errorf("kind %d: Cases of a case that is too deep", i)
				}
			}
		}
	}
}

// TestEndless checks values that contain themselves (P14.1 to P14.3).
func TestEndless(t *testing.T) {
	v := list(api.ListCase{Items: []api.Val{value.Plain(one)}})
	v.Lists[0].Items[0].V = v
	w := record(trial.Open(trial.Present("a", one)))
	w.Structs[0].Fields[0].Val.V = w
	for _, u := range []api.Value{v, w} {
		p := value.Plain(u)
		_, e := unify.Unify(p, p)
		_, e2 := unify.Meet(top, u)
		_, e3 := unify.All([]api.Val{value.Bottom(), p})
		if e != api.ErrKind || e2 != api.ErrKind || e3 != api.ErrKind || unify.Conflict(p, value.Bottom()) {
			t.Error("a value that contains itself")
		}
	}
	if _, ok := unify.Sequences(v.Lists[0], v.Lists[0]); ok {
		t.Error("a list case that contains itself")
	}
	if _, ok := unify.Cases(w.Structs[0], trial.Open()); ok {
		t.Error("a struct case that contains itself")
	}
}

// TestMany checks values with many fields, cases, items and classes (P14.1, P14.2).
func TestMany(t *testing.T) {
	const n = 200
	var first, second, both []api.Field
	var items []api.Value
	var low, high []api.ListCase
	for i := range n {
		number := trial.Number(int64(i))
		f, g := trial.Present("k"+strconv.Itoa(1000+i), number), trial.Required("k"+strconv.Itoa(1000+i), ints)
		if i%3 > 0 {
			first = append(first, f)
		}
		if i%2 > 0 {
			second = append(second, g)
		}
		switch {
		case i%3 > 0:
			both = append(both, f)
		case i%2 > 0:
			both = append(both, g)
		}
		items = append(items, number)
		if i < n/2 {
			low = append(low, trial.Closed(number))
		}
		if i >= n/4 {
			high = append(high, trial.Closed(number, trial.Kind("string")), trial.Closed(number))
		}
	}
	if got := unified(t, value.Plain(record(trial.Open(first...))), value.Plain(record(trial.Open(second...)))); !value.Equal(got, value.Plain(record(trial.Open(both...)))) {
		t.Error("many fields")
	}
	if got := unified(t, value.Plain(list(trial.Closed(items...))), value.Plain(list(trial.Longer(ints)))); !value.Equal(got, value.Plain(list(trial.Closed(items...)))) {
		t.Error("many items")
	}
	want := trial.Made(value.Plain(list(low[n/4:]...)))
	if got := unified(t, trial.Made(value.Plain(list(low...))), trial.Made(value.Plain(list(high...)))); !value.Equal(got, want) {
		t.Error("many cases")
	}
	var l []api.Val
	for _, f := range both {
		l = append(l, value.Plain(record(trial.Open(f))))
	}
	if got := unified(t, l...); !value.Equal(got, value.Plain(record(trial.Open(both...)))) {
		t.Error("many Vals")
	}
}

// TestManyClasses checks struct cases with many classes (P14.1).
func TestManyClasses(t *testing.T) {
	divide := func(sets []string) api.StructCase {
		var c api.StructCase
		rest := trial.Strs(".*")
		for i, s := range sets {
			set := trial.Strs(s)
			rest = lang.Minus(rest, set)
			c.Classes = append(c.Classes, api.Class{Set: set, Val: value.Plain(list(trial.Longer(trial.Number(int64(i)))))})
		}
		c.Classes = append(c.Classes, api.Class{Set: rest, Val: value.Top()})
		return trial.Made(value.Plain(record(c))).V.Structs[0]
	}
	var starts, ends []string
	for i := range 26 {
		letter := string([]byte{byte('a' + i)})
		starts = append(starts, letter+".*")
		ends = append(ends, ".*"+letter)
	}
	a, b := divide(starts), divide(ends)
	got, ok := unify.Cases(a, b)
	want := trial.Made(value.Plain(record(boundStruct(a, b)))).V.Structs[0]
	if !ok || !parts.Same(record(got), record(want)) || len(got.Classes) != 28 {
		t.Errorf("%d classes", len(got.Classes))
	}
}

// TestManyWords checks struct cases with a class for each of many labels, or for a few, which begin in the same way, or are the beginnings of others (P14.1).
func TestManyWords(t *testing.T) {
	patterns := []string{"a", "ab", "abc", "abd", "a[b-d]", "a[c-e]c", "[a-c]b", "b", "b.", "()", "abc.*", "a(b|cd)", "[ab][bc]", "\\x00", "\\x00a", "aab*"}
	for i, p := range patterns {
		for j, q := range patterns {
			c := trial.Made(value.Plain(record(api.StructCase{Classes: []api.Class{{Set: trial.Strs(p), Val: value.Plain(ints)}, {Set: lang.Not(trial.Strs(p)), Val: value.Plain(two)}}}))).V.Structs[0]
			d := trial.Made(value.Plain(record(api.StructCase{Classes: []api.Class{{Set: trial.Strs(q), Val: value.Plain(one)}, {Set: lang.Not(trial.Strs(q)), Val: value.Top()}}}))).V.Structs[0]
			got, ok := unify.Cases(c, d)
			if want := trial.Made(value.Plain(record(boundStruct(c, d)))).V; !ok || !parts.Same(record(got), want) {
				t.Errorf("patterns %d and %d: %s", i, j, shown(record(got)))
			}
		}
	}
	const n = 1500
	words := func(first int) api.StructCase {
		var labels []string
		var c api.StructCase
		for i := first; i < first+n; i++ {
			labels = append(labels, "k"+strconv.Itoa(i))
			c.Classes = append(c.Classes, api.Class{Set: trial.Strs(labels[len(labels)-1]), Val: value.Plain(trial.Number(int64(i)))})
		}
		c.Classes = append(c.Classes, api.Class{Set: lang.Not(parts.Strings(labels)), Val: value.Top()})
		return trial.Made(value.Plain(record(c))).V.Structs[0]
	}
	got, ok := unify.Cases(words(1000), words(1000+n/2))
	if !ok || len(got.Classes) != 3*n/2+1 {
		t.Fatalf("%d classes", len(got.Classes))
	}
	for i := 1000; i < 1000+3*n/2; i++ {
		if v, _ := value.View(got, "k"+strconv.Itoa(i)); !parts.SameVal(v, value.Plain(trial.Number(int64(i)))) {
			t.Errorf("class %d", i)
		}
	}
}
