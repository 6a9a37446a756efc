package value_test

import (
	"reflect"
	"testing"

	"configlang/api"
	"configlang/automaton"
	"configlang/value"
)

// view is the definition of View.
func view(c api.StructCase, label string) (api.Val, int) {
	for _, f := range c.Fields {
		if f.Label == label {
			return f.Val, f.Presence
		}
	}
	for _, k := range c.Classes {
		if automaton.Accepts(k.Set, label) {
			return k.Val, api.Optional
		}
	}
	return api.Val{}, api.Optional
}

// checkView compares View of a label with what it must return.
func checkView(t *testing.T, c api.StructCase, label string, want api.Val, presence int) {
	t.Helper()
	if v, p := value.View(c, label); p != presence || !reflect.DeepEqual(v, want) {
		t.Errorf("View(%#v, %q): %#v, %d, want %#v, %d", c, label, v, p, want, presence)
	}
}

// TestViewCases checks View of struct cases, also of those that are not sound (P12.4).
func TestViewCases(t *testing.T) {
	top, bottom, one, two := value.Top(), value.Bottom(), value.Plain(number(1)), value.Plain(number(2))
	checkView(t, open(), "a", top, api.Optional)
	checkView(t, open(), "", top, api.Optional)
	checkView(t, api.StructCase{}, "", bottom, api.Optional)
	checkView(t, api.StructCase{}, "a", bottom, api.Optional)
	c := api.StructCase{
		Fields:  []api.Field{{Label: "b", Presence: api.Required, Val: one}, {Label: "a", Presence: api.Present, Val: two}, {Label: "b", Presence: api.Present, Val: top}, {Label: "c", Presence: 7, Val: one}, {Label: "d", Presence: api.Optional}, {Label: "e"}, {Label: "f", Presence: -1, Val: top}},
		Classes: []api.Class{{Val: top}, class("x.*", one), {Set: wrongSets()[5], Val: top}, class(".*y|b", two), {Set: api.Lang{States: []api.State{{Edges: []api.Edge{{Lo: 'z', Hi: 'z', To: 1}}}, {Accept: true, Edges: []api.Edge{{Lo: 'z', Hi: 'z', To: 2}}}, {Accept: true}, {Accept: true}}}, Val: api.Val{D: one.D}}},
	}
	checkView(t, c, "b", one, api.Required)
	checkView(t, c, "a", two, api.Present)
	checkView(t, c, "c", one, 7)
	checkView(t, c, "d", bottom, api.Optional)
	checkView(t, c, "e", bottom, 0)
	checkView(t, c, "f", top, -1)
	checkView(t, c, "x", one, api.Optional)
	checkView(t, c, "xy", one, api.Optional)
	checkView(t, c, "y", two, api.Optional)
	checkView(t, c, "z", api.Val{D: one.D}, api.Optional)
	checkView(t, c, "zz", api.Val{D: one.D}, api.Optional)
	checkView(t, c, "zzz", bottom, api.Optional)
	checkView(t, c, "", bottom, api.Optional)
	checkView(t, c, "ab", bottom, api.Optional)
}

// TestView compares View with the definition, and checks that exactly one field or class of a sound struct case applies (P12.4, P12.5).
func TestView(t *testing.T) {
	x := random(6)
	for n := range 600 {
		v := record(someStruct(&x, 2))
		if n%2 == 0 {
			v = clone(v)
			spoil(&x, &v)
		}
		sound := isSound(v)
		for _, c := range v.Structs {
			for _, label := range append(names, "x", "aaaa", "bbbb", "zb", "\x80") {
				want, presence := view(c, label)
				checkView(t, c, label, want, presence)
				if applies := applying(c, label); sound && applies != 1 {
					t.Fatalf("%d parts of %#v apply to %q", applies, c, label)
				}
			}
		}
	}
}

// applying returns the number of fields and classes that apply to a label.
func applying(c api.StructCase, label string) int {
	n := 0
	for _, f := range c.Fields {
		if f.Label == label {
			n++
		}
	}
	for _, k := range c.Classes {
		if automaton.Accepts(k.Set, label) {
			n++
		}
	}
	return n
}

// TestItem checks Item of list cases, also of those that are not sound (P12.4).
func TestItem(t *testing.T) {
	top, one, two := value.Top(), value.Plain(number(1)), value.Plain(number(2))
	least, greatest := -1<<63, 1<<63-1
	for i, c := range []struct {
		c    api.ListCase
		i    int
		want api.Val
		ok   bool
	}{
		{api.ListCase{}, 0, api.Val{}, false}, {api.ListCase{}, -1, api.Val{}, false}, {api.ListCase{Items: []api.Val{}, Rest: []api.Val{}}, 0, api.Val{}, false},
		{api.ListCase{Items: []api.Val{one, two}}, 0, one, true}, {api.ListCase{Items: []api.Val{one, two}}, 1, two, true}, {api.ListCase{Items: []api.Val{one, two}}, 2, api.Val{}, false}, {api.ListCase{Items: []api.Val{one, two}}, -1, api.Val{}, false}, {api.ListCase{Items: []api.Val{one, two}}, greatest, api.Val{}, false},
		{api.ListCase{Items: []api.Val{{}}}, 0, api.Val{}, true}, {api.ListCase{Items: []api.Val{{D: two.D}}}, 0, api.Val{D: two.D}, true},
		{api.ListCase{Rest: []api.Val{top}}, 0, top, true}, {api.ListCase{Rest: []api.Val{top}}, greatest, top, true}, {api.ListCase{Rest: []api.Val{top}}, -1, api.Val{}, false}, {api.ListCase{Rest: []api.Val{top}}, least, api.Val{}, false}, {api.ListCase{Rest: []api.Val{{}}}, 3, api.Val{}, true},
		{api.ListCase{Items: []api.Val{one}, Rest: []api.Val{two}}, 0, one, true}, {api.ListCase{Items: []api.Val{one}, Rest: []api.Val{two}}, 1, two, true}, {api.ListCase{Items: []api.Val{one}, Rest: []api.Val{two}}, 2, two, true},
		{api.ListCase{Items: []api.Val{one}, Rest: []api.Val{two, top}}, 2, two, true},
	} {
		if v, ok := value.Item(c.c, c.i); ok != c.ok || !reflect.DeepEqual(v, c.want) {
			t.Errorf("case %d: %v, %v", i, v, ok)
		}
	}
}

// TestExamples checks the examples of the chapter.
func TestExamples(t *testing.T) {
	if !value.IsBottom(value.Bottom().V) {
		t.Error("IsBottom of Bottom")
	}
	c := api.StructCase{Classes: []api.Class{{Set: automaton.All(), Val: value.Top()}}}
	for _, label := range names {
		checkView(t, c, label, value.Top(), api.Optional)
	}
}
