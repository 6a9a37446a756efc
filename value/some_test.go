package value_test

import (
	"fmt"
	"reflect"
	"slices"

	"configlang/api"
	"configlang/automaton"
	"configlang/lang"
	"configlang/numset"
	"configlang/regex"
	"configlang/scalar"
	"configlang/value"
)

// random returns numbers that are the same in each run.
type random uint64

func (x *random) below(n int) int {
	*x = *x*6364136223846793005 + 1442695040888963407
	return int(uint64(*x)>>33) % n
}

// pick returns a random element.
func pick[T any](x *random, l []T) T {
	return l[x.below(len(l))]
}

// strs returns the set of the strings that an expression matches.
func strs(text string) api.Lang {
	r, f := regex.Parse(text)
	l, e := automaton.Of(r)
	if f != (api.Fault{}) || e != api.OK {
		panic(text)
	}
	return l
}

// number and text return the value of one scalar.
func number(n int64) api.Value {
	s, _ := scalar.Of(api.Data{Kind: api.Number, Num: n * api.Unit})
	return api.Value{Scalars: s}
}

func text(s string) api.Value {
	return api.Value{Scalars: api.Scalars{Strs: automaton.Word(s)}}
}

// kind returns the value of all scalars of a type.
func kind(name string) api.Value {
	s, e := scalar.Type(name)
	if e != api.OK {
		panic(name)
	}
	return api.Value{Scalars: s}
}

// list and record return the value of one case.
func list(c api.ListCase) api.Value {
	return api.Value{Lists: []api.ListCase{c}}
}

func record(c api.StructCase) api.Value {
	return api.Value{Structs: []api.StructCase{c}}
}

// plains returns the Vals of some values.
func plains(l ...api.Value) []api.Val {
	var vals []api.Val
	for _, v := range l {
		vals = append(vals, value.Plain(v))
	}
	return vals
}

// others returns the class of all strings but some.
func others(v api.Val, labels ...string) api.Class {
	set := automaton.All()
	for _, s := range labels {
		set = lang.Minus(set, automaton.Word(s))
	}
	return api.Class{Set: set, Val: v}
}

// field returns a present field.
func field(label string, v api.Value) api.Field {
	return api.Field{Label: label, Presence: api.Present, Val: value.Plain(v)}
}

// open returns the struct case with some fields that leaves other labels open.
func open(l ...api.Field) api.StructCase {
	var labels []string
	for _, f := range l {
		labels = append(labels, f.Label)
	}
	return api.StructCase{Fields: l, Classes: []api.Class{others(value.Top(), labels...)}}
}

// names are labels in ascending order.
var names = []string{"", "\x00", "#d", "B", "_h", "a", "a\x00", "ab", "b", "ba", "\xff"}

// someSet returns a random set of strings.
func someSet(x *random) api.Lang {
	if x.below(2) == 0 {
		return strs(pick(x, []string{"a*", "a.*", ".*b", "[]", "b|ba", ".*", "..?", "(aa)*", "[^a]*", "x|ab", "()"}))
	}
	l, _ := lang.Bound(pick(x, []string{"<", "<=", ">", ">=", "==", "!="}), pick(x, names))
	return l
}

// someScalars returns a random valid set of scalars.
func someScalars(x *random) api.Scalars {
	s := api.Scalars{Null: x.below(3) == 0, False: x.below(3) == 0, True: x.below(3) == 0}
	for range x.below(3) {
		lo := int64(x.below(5) - 2)
		s.Nums.Ints = append(s.Nums.Ints, api.Span{Lo: lo, Hi: lo + int64(x.below(2))})
		s.Nums.Fracs = append(s.Nums.Fracs, api.Span{Lo: lo * 5000, Hi: lo*5000 + int64(x.below(9000))})
	}
	s.Nums = numset.Make(s.Nums)
	if x.below(2) == 0 {
		s.Strs = someSet(x)
	}
	return s
}

// divide returns random valid sets, not empty and without common strings, that have all strings but some labels.
func divide(x *random, labels []string) []api.Lang {
	sets := []api.Lang{others(api.Val{}, labels...).Set}
	for range x.below(4) {
		cut := someSet(x)
		var parts []api.Lang
		for _, s := range sets {
			parts = append(parts, lang.And(s, cut), lang.Minus(s, cut))
		}
		sets = slices.DeleteFunc(parts, func(s api.Lang) bool { return len(s.States) == 0 })
	}
	for len(sets) > 1 && x.below(3) == 0 {
		sets[0] = lang.Or(sets[0], sets[len(sets)-1])
		sets = sets[:len(sets)-1]
	}
	i, j := x.below(len(sets)), x.below(len(sets))
	sets[i], sets[j] = sets[j], sets[i]
	return sets
}

// someVals returns at most n random sound Vals.
func someVals(x *random, n, levels int) []api.Val {
	var l []api.Val
	for range x.below(n + 1) {
		l = append(l, someVal(x, levels))
	}
	return l
}

// someVal returns a random sound Val, whose default may be anything.
func someVal(x *random, levels int) api.Val {
	v := some(x, levels)
	if x.below(2) == 0 {
		return value.Plain(v)
	}
	return api.Val{V: v, D: some(x, levels)}
}

// someStruct returns a random sound struct case.
func someStruct(x *random, levels int) api.StructCase {
	var c api.StructCase
	var labels []string
	for _, s := range names {
		if x.below(8) == 0 {
			labels = append(labels, s)
			c.Fields = append(c.Fields, api.Field{Label: s, Presence: 1 + x.below(2), Val: someVal(x, levels)})
		}
	}
	for _, s := range divide(x, labels) {
		c.Classes = append(c.Classes, api.Class{Set: s, Val: someVal(x, levels)})
	}
	return c
}

// some returns a random sound value of at most a number of levels.
func some(x *random, levels int) api.Value {
	switch x.below(8) {
	case 0:
		return api.Value{Any: true}
	case 1:
		return api.Value{}
	}
	v := api.Value{}
	if x.below(2) == 0 {
		v.Scalars = someScalars(x)
	}
	if levels == 1 {
		return v
	}
	for range x.below(5) / 2 {
		c := api.ListCase{Items: someVals(x, 2, levels-1)}
		if x.below(2) == 0 {
			c.Rest = []api.Val{someVal(x, levels-1)}
		}
		v.Lists = append(v.Lists, c)
	}
	for range x.below(5) / 2 {
		v.Structs = append(v.Structs, someStruct(x, levels-1))
	}
	return v
}

// tower returns a value of at least n levels, each of which is a list or a struct of the next one.
func tower(x *random, n int) api.Value {
	v := pick(x, []api.Value{{Any: true}, {}, number(1), list(api.ListCase{})})
	for range n - 1 {
		u := pick(x, []api.Val{{V: v}, {D: v}, {V: v, D: v}})
		switch x.below(4) {
		case 0:
			v = list(api.ListCase{Items: []api.Val{u}})
		case 1:
			v = list(api.ListCase{Rest: []api.Val{u}})
		case 2:
			v = record(open(api.Field{Label: "a", Presence: api.Required, Val: u}))
		default:
			v = record(api.StructCase{Classes: []api.Class{others(u)}})
		}
	}
	return v
}

// fill sets all parts to anything, without regard to what is valid; parts below a number of lists in lists are empty.
func fill(x *random, v reflect.Value, lists int) {
	switch v.Kind() {
	case reflect.Bool:
		v.SetBool(x.below(4) == 0)
	case reflect.Int, reflect.Int64:
		v.SetInt(pick(x, []int64{0, 1, 2, 3, -1, 1 << 40, -1 << 63, 1<<63 - 1}))
	case reflect.Uint8:
		v.SetUint(uint64(pick(x, []int{0, 1, 97, 98, 254, 255})))
	case reflect.String:
		v.SetString(pick(x, names))
	case reflect.Struct:
		for i := range v.NumField() {
			fill(x, v.Field(i), lists)
		}
	case reflect.Slice:
		if lists > 0 {
			v.Set(reflect.MakeSlice(v.Type(), x.below(3), 5))
		}
		for i := range v.Len() {
			fill(x, v.Index(i), lists-1)
		}
	}
}

// clone returns a copy of x that shares no memory with it; empty lists are nil.
func clone[T any](x T) T {
	return copied(reflect.ValueOf(x)).Interface().(T)
}

func copied(v reflect.Value) reflect.Value {
	c := reflect.New(v.Type()).Elem()
	c.Set(v)
	switch v.Kind() {
	case reflect.Slice:
		c.SetZero()
		for i := range v.Len() {
			c = reflect.Append(c, copied(v.Index(i)))
		}
	case reflect.Struct:
		for i := range v.NumField() {
			c.Field(i).Set(copied(v.Field(i)))
		}
	}
	return c
}

// show returns a text that is the same exactly if all parts are; empty lists are nil.
func show(x any) string {
	return fmt.Sprintf("%#v", copied(reflect.ValueOf(x)).Interface())
}

// parts returns pointers to all parts of a type that v has, itself among them.
func parts[T any](v reflect.Value) []*T {
	var l []*T
	if p, ok := v.Addr().Interface().(*T); ok {
		l = append(l, p)
	}
	switch v.Kind() {
	case reflect.Slice:
		for i := range v.Len() {
			l = append(l, parts[T](v.Index(i))...)
		}
	case reflect.Struct:
		for i := range v.NumField() {
			l = append(l, parts[T](v.Field(i))...)
		}
	}
	return l
}

// wrongScalars are sets that are not valid.
func wrongScalars() []api.Scalars {
	return []api.Scalars{
		{Nums: api.Nums{Ints: []api.Span{{Lo: 2, Hi: 1}}}},
		{Null: true, Nums: api.Nums{Fracs: []api.Span{{Lo: 0, Hi: 7}}}},
		{Nums: api.Nums{Ints: []api.Span{{Lo: 1, Hi: 1}, {Lo: 2, Hi: 2}}}},
		{Strs: api.Lang{States: []api.State{{}}}},
		{True: true, Strs: api.Lang{States: []api.State{{Accept: true, Edges: []api.Edge{{Hi: 255, To: 9}}}}}},
	}
}

// wrongSets are sets of strings that are not valid, or empty.
func wrongSets() []api.Lang {
	return []api.Lang{
		{},
		{States: []api.State{}},
		{States: []api.State{{}}},
		{States: []api.State{{Accept: true, Edges: []api.Edge{{Hi: 9}, {Lo: 10, Hi: 255}}}}},
		{States: []api.State{{Accept: true, Edges: []api.Edge{{Hi: 255, To: 1}}}, {Accept: true, Edges: []api.Edge{{Hi: 255, To: 1}}}}},
		{States: []api.State{{Accept: true, Edges: []api.Edge{{Hi: 255, To: 1}}}}},
		{States: []api.State{{Accept: true, Edges: []api.Edge{{Hi: 255, To: -1}}}}},
		{States: []api.State{{Accept: true, Edges: []api.Edge{{Lo: 5, Hi: 4}}}}},
	}
}

// spoil changes one part of a value, so that it is often no longer sound.
func spoil(x *random, v *api.Value) {
	lists := parts[api.ListCase](reflect.ValueOf(v).Elem())
	structs := parts[api.StructCase](reflect.ValueOf(v).Elem())
	p := pick(x, parts[api.Value](reflect.ValueOf(v).Elem()))
	switch n := x.below(8); {
	case n == 0:
		p.Any = true
	case n == 1:
		p.Scalars = pick(x, wrongScalars())
	case n == 2 && len(lists) > 0:
		c := pick(x, lists)
		c.Rest = append(c.Rest, value.Top())
	case n == 3:
		p.Lists = append(p.Lists, api.ListCase{Items: plains(tower(x, 14+x.below(3)))})
	case len(structs) > 0:
		spoilStruct(x, pick(x, structs))
	default:
		p.Scalars.Null = !p.Scalars.Null
	}
}

// spoilStruct changes one part of a struct case.
func spoilStruct(x *random, c *api.StructCase) {
	class := x.below(len(c.Classes) + 1)
	if n := len(c.Fields); n > 0 && class == len(c.Classes) {
		i, j := x.below(n), x.below(n)
		switch x.below(6) {
		case 0:
			c.Fields[i], c.Fields[j] = c.Fields[j], c.Fields[i]
		case 1:
			c.Fields[i].Presence = x.below(6) - 1
		case 2:
			c.Fields[i].Label = pick(x, names)
		case 3:
			c.Fields = slices.Delete(c.Fields, i, i+1)
		case 4:
			c.Fields = slices.Insert(c.Fields, i, c.Fields[i])
		default:
			c.Fields[i].Val.D = api.Value{Any: true, Lists: []api.ListCase{{}}}
		}
		return
	}
	if class == len(c.Classes) {
		c.Fields = []api.Field{field(pick(x, names), api.Value{})}
		return
	}
	k := &c.Classes[class]
	switch x.below(7) {
	case 0:
		k.Set = pick(x, wrongSets())
	case 1:
		k.Set = lang.Or(k.Set, someSet(x))
	case 2:
		k.Set = lang.Minus(k.Set, someSet(x))
	case 3:
		c.Classes = slices.Delete(c.Classes, class, class+1)
	case 4:
		c.Classes = slices.Insert(c.Classes, class, *k)
	case 5:
		c.Classes = append(c.Classes, api.Class{Set: someSet(x)})
	default:
		k.Val.V.Scalars = pick(x, wrongScalars())
	}
}
