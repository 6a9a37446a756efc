package value_test

import (
	"reflect"
	"slices"
	"testing"

	"configlang/api"
	"configlang/automaton"
	"configlang/lang"
	"configlang/scalar"
	"configlang/value"
)

// levels returns the number of levels of a value: the definition.
func levels(v api.Value) int {
	n := 1
	for _, u := range valsOf(v) {
		n = max(n, 1+levels(u.V), 1+levels(u.D))
	}
	return n
}

// values returns the number of values in a value: the definition.
func values(v api.Value) int {
	n := 1
	for _, u := range valsOf(v) {
		n += values(u.V) + values(u.D)
	}
	return n
}

// valsOf returns the Vals in the cases of a value.
func valsOf(v api.Value) []api.Val {
	var l []api.Val
	for _, c := range v.Lists {
		l = append(l, slices.Concat(c.Items, c.Rest)...)
	}
	for _, c := range v.Structs {
		for _, f := range c.Fields {
			l = append(l, f.Val)
		}
		for _, k := range c.Classes {
			l = append(l, k.Val)
		}
	}
	return l
}

// isSound is the definition of sound values.
func isSound(v api.Value) bool {
	return levels(v) <= api.MaxDepth && soundParts(v)
}

// soundParts reports whether all parts of a value are sound, however deep it is.
func soundParts(v api.Value) bool {
	if v.Any && show(v) != show(api.Value{Any: true}) || !scalar.Valid(v.Scalars) {
		return false
	}
	for _, c := range v.Lists {
		if len(c.Rest) > 1 {
			return false
		}
	}
	for _, c := range v.Structs {
		if !soundStruct(c) {
			return false
		}
	}
	return !slices.ContainsFunc(valsOf(v), func(u api.Val) bool { return !soundParts(u.V) || !soundParts(u.D) })
}

// soundStruct reports whether the fields and the sets of a struct case are as they must be.
func soundStruct(c api.StructCase) bool {
	labels := api.Lang{}
	for i, f := range c.Fields {
		if i > 0 && f.Label <= c.Fields[i-1].Label || f.Presence < api.Present || f.Presence > api.Required {
			return false
		}
		labels = lang.Or(labels, automaton.Word(f.Label))
	}
	union := api.Lang{}
	for _, k := range c.Classes {
		if !automaton.Valid(k.Set) || len(k.Set.States) == 0 || len(lang.And(k.Set, union).States) > 0 {
			return false
		}
		union = lang.Or(union, k.Set)
	}
	return automaton.Same(union, lang.Not(labels))
}

// TestBasic checks Top, Bottom, Plain, Scalar, IsTop and IsBottom (P12.1).
func TestBasic(t *testing.T) {
	top := api.Val{V: api.Value{Any: true}, D: api.Value{Any: true}}
	if !reflect.DeepEqual(value.Top(), top) || !reflect.DeepEqual(value.Bottom(), api.Val{}) {
		t.Error("Top or Bottom")
	}
	x := random(1)
	for range 200 {
		v := some(&x, 3)
		spoil(&x, &v)
		if p := value.Plain(v); !reflect.DeepEqual(p, api.Val{V: v, D: v}) {
			t.Fatalf("Plain(%v): %v", v, p)
		}
	}
	for _, s := range append(wrongScalars(), api.Scalars{}, scalar.All(), someScalars(&x)) {
		if v := value.Scalar(s); !reflect.DeepEqual(v, api.Val{V: api.Value{Scalars: s}, D: api.Value{Scalars: s}}) {
			t.Errorf("Scalar(%v): %v", s, v)
		}
	}
	all := api.Value{Any: true}
	strange := api.Value{Any: true, Scalars: wrongScalars()[0], Lists: []api.ListCase{{}}}
	for _, c := range []struct {
		v    api.Val
		want bool
	}{
		{top, true}, {api.Val{V: all, D: strange}, true}, {api.Val{V: strange, D: strange}, true},
		{api.Val{V: all}, false}, {api.Val{D: all}, false}, {api.Val{}, false}, {value.Scalar(scalar.All()), false},
		{value.Plain(api.Value{Scalars: scalar.All(), Lists: []api.ListCase{{Rest: []api.Val{top}}}, Structs: []api.StructCase{open()}}), false},
	} {
		if value.IsTop(c.v) != c.want {
			t.Errorf("IsTop(%v)", c.v)
		}
	}
}

// TestIsBottom checks which values are bottom (P12.1).
func TestIsBottom(t *testing.T) {
	if !value.IsBottom(value.Bottom().V) {
		t.Error("Bottom")
	}
	bottoms := []api.Value{
		{},
		{Scalars: api.Scalars{Nums: api.Nums{Ints: []api.Span{}}, Strs: api.Lang{States: []api.State{}}}, Lists: []api.ListCase{}, Structs: []api.StructCase{}},
	}
	for _, s := range wrongScalars() {
		bottoms = append(bottoms, api.Value{Scalars: s})
	}
	for _, v := range bottoms {
		if !value.IsBottom(v) {
			t.Errorf("%v is not bottom", v)
		}
	}
	for _, v := range []api.Value{
		{Any: true}, {Any: true, Scalars: wrongScalars()[0]}, number(0), text(""), kind("null"), kind("bool"), kind("string"),
		{Scalars: api.Scalars{False: true}}, {Scalars: api.Scalars{True: true}}, {Scalars: api.Scalars{Nums: api.Nums{Fracs: []api.Span{{Lo: 1, Hi: 1}}}}},
		list(api.ListCase{}), list(api.ListCase{Items: []api.Val{{}}}), record(api.StructCase{}), record(open(field("a", api.Value{}))),
		{Scalars: wrongScalars()[0], Lists: []api.ListCase{{}}}, {Scalars: wrongScalars()[3], Structs: []api.StructCase{{}}},
	} {
		if value.IsBottom(v) {
			t.Errorf("%v is bottom", v)
		}
	}
}

// class returns the class of the strings that an expression matches.
func class(expression string, v api.Val) api.Class {
	return api.Class{Set: strs(expression), Val: v}
}

// cased returns the value of one struct case.
func cased(fields []api.Field, classes ...api.Class) api.Value {
	return record(api.StructCase{Fields: fields, Classes: classes})
}

// TestSoundCases checks values that are sound (P12.2).
func TestSoundCases(t *testing.T) {
	top := api.Value{Any: true}
	ab := []api.Field{{Label: "a", Presence: api.Required}, {Label: "b", Presence: api.Present, Val: value.Top()}}
	for name, v := range map[string]api.Value{
		"bottom":                       {},
		"everything":                   top,
		"empty lists":                  {Any: true, Lists: []api.ListCase{}, Structs: []api.StructCase{}, Scalars: api.Scalars{Nums: api.Nums{Fracs: []api.Span{}}}},
		"scalars":                      {Scalars: scalar.All()},
		"bottom within":                list(api.ListCase{Items: []api.Val{{}}, Rest: []api.Val{{}}}),
		"equal cases, not in order":    {Lists: []api.ListCase{{Rest: plains(top)}, {Items: plains(top, top)}, {}, {}}},
		"what is everything":           {Scalars: scalar.All(), Lists: []api.ListCase{{Rest: plains(top)}}, Structs: []api.StructCase{open()}},
		"a default that is no default": list(api.ListCase{Items: []api.Val{{D: top}}}),
		"open":                         cased(nil, class(".*", value.Top())),
		"the empty label":              cased([]api.Field{field("", top)}, class("..*", api.Val{})),
		"fields":                       cased(ab, others(value.Top(), "b", "a")),
		"bytes, not letters":           cased([]api.Field{field("b", top), field("\x80", top)}, others(value.Top(), "b", "\x80")),
		"a label before another one":   cased([]api.Field{field("B", top), field("a", top), field("a\x00", top), field("aa", top)}, others(value.Top(), "B", "a", "aa", "a\x00")),
		"classes not in order":         cased(nil, class("..+", value.Top()), class("a", api.Val{}), class("[^a]?", api.Val{})),
		"classes with equal Vals":      cased(nil, class("a.*", value.Top()), class("[^a].*|()", value.Top())),
		"classes and a field":          cased([]api.Field{field("ab", top)}, class("[^a].*|()", api.Val{}), class("a|a[^b].*|ab.+", value.Top())),
	} {
		if !value.Sound(value.Plain(v)) || !isSound(v) {
			t.Errorf("%s: not sound", name)
		}
	}
}

// TestUnsoundCases checks values that are not sound, each for one reason (P12.2).
func TestUnsoundCases(t *testing.T) {
	top := api.Value{Any: true}
	all := class(".*", value.Top())
	ab := func(presence int) []api.Field { return []api.Field{field("a", top), {Label: "b", Presence: presence}} }
	rest := others(value.Top(), "a", "b")
	for name, v := range map[string]api.Value{
		"everything and null":        {Any: true, Scalars: api.Scalars{Null: true}},
		"everything and a number":    {Any: true, Scalars: number(1).Scalars},
		"everything and strings":     {Any: true, Scalars: kind("string").Scalars},
		"everything and a list":      {Any: true, Lists: []api.ListCase{{}}},
		"everything and a struct":    {Any: true, Structs: []api.StructCase{open()}},
		"two rests":                  list(api.ListCase{Rest: plains(top, top)}),
		"two rests, bottom":          list(api.ListCase{Rest: make([]api.Val, 2)}),
		"no classes":                 cased(nil),
		"fields alone":               cased([]api.Field{field("a", top)}),
		"an optional field":          cased(ab(api.Optional), rest),
		"no presence":                cased(ab(0), rest),
		"an unknown presence":        cased(ab(4), rest),
		"a negative presence":        cased(ab(-1), rest),
		"fields not in order":        cased([]api.Field{field("b", top), field("a", top)}, rest),
		"by length, not by bytes":    cased([]api.Field{field("b", top), field("aa", top)}, others(value.Top(), "aa", "b")),
		"a label twice":              cased([]api.Field{field("a", top), field("a", top), field("b", top)}, rest),
		"the empty label twice":      cased([]api.Field{field("", top), field("", top)}, class(".+", value.Top())),
		"a class has a label":        cased(ab(api.Present), others(value.Top(), "a")),
		"a class has all labels":     cased(ab(api.Present), all),
		"a string is missing":        cased(ab(api.Present), others(value.Top(), "a", "b", "c")),
		"the empty string is missed": cased(nil, class("..*", value.Top())),
		"a class twice":              cased(nil, all, all),
		"classes overlap":            cased(nil, class("a.*", value.Top()), class(".*", api.Val{})),
		"classes overlap far away":   cased(nil, class("a*", value.Top()), others(value.Top(), "", "a", "aa", "aaa")),
		"classes miss strings":       cased(nil, class("a.*", value.Top()), class("[^a].*", value.Top())),
		"an empty class":             cased(nil, all, api.Class{Val: value.Top()}),
	} {
		if isSound(v) {
			t.Fatalf("%s: the definition", name)
		}
		u := list(api.ListCase{Items: plains(top, v)})
		for i, w := range []api.Val{{V: v}, {D: v}, value.Plain(v), value.Plain(u), value.Plain(list(api.ListCase{Rest: []api.Val{{D: v}}})), value.Plain(record(open(field("x", v)))), value.Plain(cased(nil, class(".*", value.Plain(v))))} {
			if value.Sound(w) {
				t.Errorf("%s: %d is sound", name, i)
			}
		}
		if value.Depth(v) != 0 || value.Size(v) != 0 || value.Depth(u) != 0 || value.Size(u) != 0 {
			t.Errorf("%s: Depth or Size", name)
		}
		if value.Compare(v, top) != 0 || value.Compare(top, u) != 0 || value.Equal(value.Plain(v), value.Plain(v)) {
			t.Errorf("%s: Compare or Equal", name)
		}
	}
	for i, s := range wrongScalars() {
		if value.Sound(value.Scalar(s)) || value.Sound(value.Plain(list(api.ListCase{Items: []api.Val{{D: api.Value{Scalars: s}}}}))) {
			t.Errorf("scalars %d", i)
		}
	}
	for i, s := range wrongSets() {
		if value.Sound(value.Plain(cased(nil, api.Class{Set: s, Val: value.Top()}))) || value.Sound(value.Plain(cased(nil, all, api.Class{Set: s}))) {
			t.Errorf("the set %d", i)
		}
	}
}

// TestSound compares Sound, Depth and Size with the definition, and checks that arguments are not changed (P12.2).
func TestSound(t *testing.T) {
	x := random(2)
	count := [2]int{}
	for n := range 1200 {
		first := some(&x, 1+x.below(4))
		v := clone(first)
		for range n % 3 {
			spoil(&x, &v)
		}
		before := clone(v)
		sound, depth, size := isSound(v), 0, 0
		if sound {
			depth, size = levels(v), values(v)
			count[0]++
		} else {
			count[1]++
		}
		if value.Sound(value.Plain(v)) != sound || value.Sound(api.Val{V: v}) != sound || value.Sound(api.Val{D: v}) != sound {
			t.Fatalf("Sound(%#v) is not %v", v, sound)
		}
		if d, s := value.Depth(v), value.Size(v); d != depth || s != size {
			t.Fatalf("Depth and Size of %#v: %d, %d, want %d, %d", v, d, s, depth, size)
		}
		if value.Sound(api.Val{V: first, D: v}) != sound || value.Sound(api.Val{V: v, D: first}) != sound {
			t.Fatalf("Sound of %#v and %#v is not %v", first, v, sound)
		}
		both := list(api.ListCase{Items: []api.Val{{V: first, D: v}}})
		if s := value.Size(both); sound && depth < api.MaxDepth && s != 1+values(first)+size {
			t.Fatalf("Size of %#v: %d", both, s)
		}
		if !reflect.DeepEqual(clone(v), before) {
			t.Fatalf("%#v is changed", before)
		}
	}
	if count[0] < 300 || count[1] < 300 {
		t.Error(count)
	}
}

// TestAnything compares the functions with the definitions for values of which hardly any part is valid (P12.1 to P12.4).
func TestAnything(t *testing.T) {
	x := random(9)
	count := 0
	for range 3000 {
		var a, b api.Val
		fill(&x, reflect.ValueOf(&a).Elem(), x.below(6))
		fill(&x, reflect.ValueOf(&b).Elem(), x.below(6))
		sound := isSound(a.V) && isSound(a.D)
		if sound {
			count++
		}
		if value.Sound(a) != sound || value.Equal(a, clone(a)) != sound {
			t.Fatalf("Sound or Equal of %#v is not %v", a, sound)
		}
		if value.IsTop(a) != (a.V.Any && a.D.Any) || value.IsBottom(a.V) != (!a.V.Any && len(a.V.Lists)+len(a.V.Structs) == 0 && scalar.Empty(a.V.Scalars)) {
			t.Fatalf("IsTop or IsBottom of %#v", a)
		}
		if n := value.Compare(a.V, b.V); n != 0 && !(isSound(a.V) && isSound(b.V)) {
			t.Fatalf("Compare(%#v, %#v): %d", a.V, b.V, n)
		}
		if !isSound(a.V) && (value.Depth(a.V) != 0 || value.Size(a.V) != 0) {
			t.Fatalf("Depth or Size of %#v", a.V)
		}
		for _, c := range a.V.Structs {
			for _, label := range names {
				want, presence := view(c, label)
				checkView(t, c, label, want, presence)
			}
		}
	}
	if count < 50 {
		t.Error(count)
	}
}

// TestSoundDefault checks defaults that differ from sound values in one part alone (P12.2).
func TestSoundDefault(t *testing.T) {
	v := record(api.StructCase{Fields: []api.Field{field("a", api.Value{}), field("b", number(1))}, Classes: []api.Class{class("a.+", value.Top()), class("()|[^ab].*|b.+", value.Top())}})
	for _, spoil := range []func(c *api.StructCase){
		func(c *api.StructCase) { c.Fields[1].Presence = api.Optional },
		func(c *api.StructCase) { c.Fields[1].Label = "c" },
		func(c *api.StructCase) { c.Fields[0].Val.D.Lists = []api.ListCase{{Rest: make([]api.Val, 2)}} },
		func(c *api.StructCase) { c.Fields = c.Fields[:1] },
		func(c *api.StructCase) { c.Classes[1].Set = c.Classes[0].Set },
		func(c *api.StructCase) { c.Classes[1].Val.D.Scalars.Null = true },
		func(c *api.StructCase) { c.Classes = c.Classes[:1] },
	} {
		d := clone(v)
		spoil(&d.Structs[0])
		for _, u := range []api.Val{{V: v, D: d}, {V: d, D: v}} {
			if value.Sound(u) || value.Sound(value.Plain(list(api.ListCase{Rest: []api.Val{u}}))) {
				t.Errorf("%#v is sound", u)
			}
		}
	}
	if u := clone(v); !value.Sound(api.Val{V: v, D: u}) || !isSound(v) {
		t.Error("not sound")
	}
}

// TestDepth checks how deep a sound value may be (P12.2).
func TestDepth(t *testing.T) {
	x := random(3)
	for n := 1; n <= api.MaxDepth+3; n++ {
		for range 10 {
			v := tower(&x, n)
			depth := levels(v)
			if depth < n {
				t.Fatalf("a tower of %d levels has %d", n, depth)
			}
			want := depth
			if depth > api.MaxDepth {
				want = 0
			}
			if d := value.Depth(v); d != want || (value.Size(v) > 0) != (want > 0) {
				t.Fatalf("Depth is %d, want %d", d, want)
			}
			if value.Sound(api.Val{V: v}) != (want > 0) || value.Sound(api.Val{D: v}) != (want > 0) {
				t.Fatalf("Sound of %d levels", depth)
			}
			if (value.Compare(v, number(2)) != 0) != (want > 0) {
				t.Fatalf("Compare of %d levels", depth)
			}
		}
	}
	for _, v := range []api.Value{{}, {Any: true}, number(1), list(api.ListCase{}), {Lists: make([]api.ListCase, 2)}} {
		if value.Depth(v) != 1 || value.Size(v) != 1 {
			t.Errorf("Depth or Size of %v", v)
		}
	}
	deep := list(api.ListCase{Items: []api.Val{{D: list(api.ListCase{Rest: plains(number(1))})}}})
	if value.Depth(deep) != 3 || value.Size(deep) != 5 {
		t.Errorf("Depth and Size: %d, %d", value.Depth(deep), value.Size(deep))
	}
}

// TestEndless checks that values without an end are not sound (P12.2).
func TestEndless(t *testing.T) {
	items := make([]api.Val, 3)
	items[1].V.Lists = []api.ListCase{{Items: items}}
	fields := []api.Field{{Label: "a", Presence: api.Present}}
	fields[0].Val.D = cased(fields, others(value.Top(), "a"))
	for _, v := range []api.Value{items[1].V, fields[0].Val.D} {
		if value.Sound(value.Plain(v)) || value.Depth(v) != 0 || value.Size(v) != 0 || value.Compare(v, v) != 0 || value.Equal(api.Val{V: v}, api.Val{V: v}) {
			t.Error("a value without an end is sound")
		}
	}
}
