package value_test

import (
	"cmp"
	"reflect"
	"slices"
	"testing"

	"configlang/api"
	"configlang/lang"
	"configlang/scalar"
	"configlang/value"
)

// item is a part of a value, in the order in which values are compared.
type item struct {
	num     int
	label   string
	set     api.Lang
	scalars api.Scalars
}

// more and end are in front of each element of a list and behind the last one, so that a proper prefix is less.
var (
	more = item{num: 1}
	end  = item{num: 0}
)

// flat returns the items of a sound value: the definition of its order.
func flat(v api.Value) []item {
	if v.Any {
		return []item{{num: 0}}
	}
	l := []item{{num: 1}, {scalars: v.Scalars}}
	for _, c := range v.Lists {
		l = append(l, more, item{num: len(c.Items)}, item{num: 1 - len(c.Rest)})
		for _, u := range slices.Concat(c.Items, c.Rest) {
			l = append(l, flatVal(u)...)
		}
	}
	l = append(l, end)
	for _, c := range v.Structs {
		l = append(l, more)
		for _, f := range c.Fields {
			l = append(append(l, more, item{label: f.Label}, item{num: f.Presence}), flatVal(f.Val)...)
		}
		l = append(l, end)
		for _, k := range c.Classes {
			l = append(append(l, more, item{set: k.Set}), flatVal(k.Val)...)
		}
		l = append(l, end)
	}
	return append(l, end)
}

func flatVal(v api.Val) []item {
	return append(flat(v.V), flat(v.D)...)
}

// compareItems compares the first part in which items differ.
func compareItems(a, b item) int {
	return cmp.Or(cmp.Compare(a.num, b.num), cmp.Compare(a.label, b.label), lang.Compare(a.set, b.set), scalar.Compare(a.scalars, b.scalars))
}

// pool returns random sound values that are not large, also with equal and almost equal ones among them.
func pool(x *random, n int) []api.Value {
	l := []api.Value{{}, {Any: true}, {Scalars: scalar.All()}, list(api.ListCase{}), record(open())}
	for len(l) < n {
		v := clone(pick(x, l))
		switch x.below(4) {
		case 0:
			v = some(x, 1+x.below(3))
		case 1:
			p := pick(x, parts[api.Value](reflect.ValueOf(&v).Elem()))
			*p = some(x, 1)
		case 2:
			spoil(x, &v)
		}
		if isSound(v) && values(v) < 40 {
			l = append(l, v)
		}
	}
	return l
}

// TestCompare compares Compare and Equal with the definition, and checks that Compare is an order of which only equal values are equal (P12.3, P12.5).
func TestCompare(t *testing.T) {
	x := random(4)
	l := pool(&x, 150)
	var texts []string
	var items [][]item
	for _, v := range l {
		texts = append(texts, show(v))
		items = append(items, flat(v))
	}
	equal := 0
	for i, a := range l {
		for j, b := range l {
			n := value.Compare(a, b)
			if n != slices.CompareFunc(items[i], items[j], compareItems) {
				t.Fatalf("Compare(%#v, %#v): %d", a, b, n)
			}
			if (n == 0) != (texts[i] == texts[j]) {
				t.Fatalf("Compare(%#v, %#v) is %d", a, b, n)
			}
			if n == 0 && i != j {
				equal++
			}
			if value.Compare(b, a) != -n {
				t.Fatalf("Compare(%#v, %#v) is %d, but not -%[3]d the other way", a, b, n)
			}
			if value.Equal(api.Val{V: a, D: b}, api.Val{V: b, D: a}) != (n == 0) || value.Equal(api.Val{V: a, D: b}, value.Plain(a)) != (n == 0) || value.Equal(value.Plain(b), api.Val{V: a, D: b}) != (n == 0) {
				t.Fatalf("Equal of %#v and %#v", a, b)
			}
		}
		if !value.Equal(value.Plain(a), clone(value.Plain(a))) {
			t.Fatalf("Plain(%#v) is not equal to itself", a)
		}
	}
	if equal == 0 {
		t.Error("no two values are equal")
	}
	slices.SortFunc(l, value.Compare)
	for i := range l {
		for j := range i {
			if value.Compare(l[j], l[i]) > 0 {
				t.Fatalf("Compare is not transitive: %#v, %#v", l[j], l[i])
			}
		}
	}
}

// TestUnsoundCompare checks that values that are not sound are neither less nor greater, nor equal (P12.3).
func TestUnsoundCompare(t *testing.T) {
	x := random(5)
	count := 0
	for range 500 {
		a, b := some(&x, 3), some(&x, 2)
		spoil(&x, &a)
		if isSound(a) {
			continue
		}
		count++
		if value.Compare(a, b) != 0 || value.Compare(b, a) != 0 || value.Compare(a, a) != 0 {
			t.Fatalf("Compare(%#v, %#v)", a, b)
		}
		for _, v := range []api.Val{value.Plain(a), {V: a, D: b}, {V: b, D: a}} {
			if value.Equal(v, v) || value.Equal(v, clone(v)) || value.Equal(v, value.Plain(b)) || value.Equal(value.Plain(b), v) {
				t.Fatalf("Equal of %#v", v)
			}
		}
	}
	if count < 100 {
		t.Error(count)
	}
}

// TestOrder checks lists of values, each of which is less than the next one (P12.3).
func TestOrder(t *testing.T) {
	top, bottom := value.Top(), value.Bottom()
	one, two := value.Plain(number(1)), value.Plain(number(2))
	fields := func(l ...api.Field) api.Value { return record(open(l...)) }
	must := func(label string, v api.Val) api.Field {
		return api.Field{Label: label, Presence: api.Required, Val: v}
	}
	items := func(l ...api.Val) api.ListCase { return api.ListCase{Items: l} }
	rest := func(r api.Val, l ...api.Val) api.ListCase { return api.ListCase{Items: l, Rest: []api.Val{r}} }
	for name, l := range map[string][]api.Value{
		"everything, scalars, lists and structs": {
			{Any: true}, kind("null"), kind("bool"), {Scalars: api.Scalars{True: true}}, kind("number"), number(0), number(1), number(-1), number(2), kind("string"), text(""), text("b"), text("aa"),
			{},
		},
		"scalars before lists before structs": {
			{Scalars: number(1).Scalars, Lists: []api.ListCase{{}}, Structs: []api.StructCase{open()}},
			{Scalars: number(2).Scalars}, {Scalars: number(2).Scalars, Structs: []api.StructCase{open()}},
			{Scalars: number(2).Scalars, Lists: []api.ListCase{rest(top)}}, {Scalars: number(2).Scalars, Lists: []api.ListCase{rest(top)}, Structs: []api.StructCase{open()}},
			{Scalars: number(2).Scalars, Lists: []api.ListCase{{}}}, {Lists: []api.ListCase{{}}},
		},
		"lists": {
			{}, list(rest(top)), list(rest(one)), list(rest(bottom)), {Lists: []api.ListCase{rest(bottom), {}}}, list(items()), {Lists: []api.ListCase{{}, {}}}, {Lists: []api.ListCase{{}, items(top)}},
			list(rest(bottom, top)), list(rest(top, one)), list(rest(bottom, one)), list(rest(top, two)), list(items(top)), list(items(one)), list(items(two)), list(items(bottom)),
			list(items(top, top)), list(items(one, bottom)), list(items(two, top)),
		},
		"V before D": {
			list(items(top)), list(items(api.Val{V: top.V, D: one.V})), list(items(api.Val{V: top.V})), list(items(api.Val{V: one.V, D: top.V})), list(items(one)), list(items(api.Val{D: top.V})),
		},
		"structs": {
			fields(), {Structs: []api.StructCase{open(), open()}},
			fields(field("", top.V)), fields(field("B", top.V)), fields(field("a", top.V)), fields(field("a", top.V), field("b", bottom.V)), fields(field("a", one.V)), fields(field("a", bottom.V)),
			fields(must("a", top)), fields(must("a", bottom)), fields(field("a\x00", top.V)), fields(field("aa", top.V)), fields(field("b", top.V)), fields(field("\x80", top.V)),
		},
		"classes": {
			cased(nil, class(".*", top)), cased(nil, class(".*", bottom)),
			cased(nil, class("()", top), class(".+", top)), cased(nil, class("()", top), class(".+", bottom)), cased(nil, class("()", bottom), class(".+", top)),
			cased(nil, class("..+", top), class(".?", bottom)),
		},
	} {
		for i := range l {
			for j := range l {
				if n := value.Compare(l[i], l[j]); n != cmp.Compare(i, j) {
					t.Errorf("%s: Compare of %d and %d is %d", name, i, j, n)
				}
			}
		}
	}
}
