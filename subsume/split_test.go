package subsume_test

import (
	"slices"

	"configlang/api"
	"configlang/automaton"
	"configlang/lang"
	"configlang/scalar"
	"configlang/trial"
	"configlang/value"
)

// halves returns two random sound values that together have the instances of a sound one.
func halves(x *trial.Random, v api.Value) (api.Value, api.Value) {
	if v.Any {
		v = api.Value{Scalars: scalar.All(), Lists: []api.ListCase{longer(top)}, Structs: []api.StructCase{open()}}
	}
	a, b := api.Value{Scalars: v.Scalars}, api.Value{Scalars: v.Scalars}
	if len(v.Lists)+len(v.Structs) == 0 || x.Below(4) == 0 {
		s := trial.Scalars(x)
		a.Scalars, b.Scalars = scalar.And(v.Scalars, s), scalar.Minus(v.Scalars, s)
	}
	for i, c := range v.Lists {
		switch p, q := halfLists(x, c); {
		case i%3 == 2 || x.Below(3) == 0:
			a.Lists, b.Lists = append(a.Lists, p), append(b.Lists, q)
		default:
			b.Lists = append(b.Lists, p, q)
		}
	}
	for i, c := range v.Structs {
		switch p, q := halfStructs(x, c); {
		case i%3 == 2 || x.Below(3) > 0:
			a.Structs, b.Structs = append(a.Structs, p), append(b.Structs, q)
		default:
			b.Structs = append(b.Structs, p, q)
		}
	}
	return a, b
}

// halfLists returns two list cases that together have the instances of one.
func halfLists(x *trial.Random, c api.ListCase) (api.ListCase, api.ListCase) {
	p := api.ListCase{Items: slices.Clone(c.Items), Rest: c.Rest}
	q := api.ListCase{Items: slices.Clone(c.Items), Rest: c.Rest}
	if n := len(c.Items); n > 0 && (len(c.Rest) == 0 || x.Below(2) == 0) {
		i := x.Below(n)
		v, w := halves(x, c.Items[i].V)
		p.Items[i], q.Items[i] = plain(v), plain(w)
		return p, q
	}
	p.Rest = nil
	q.Items = append(q.Items, c.Rest...)
	return p, q
}

// halfStructs returns two struct cases that together have the instances of one.
func halfStructs(x *trial.Random, c api.StructCase) (api.StructCase, api.StructCase) {
	p := api.StructCase{Fields: slices.Clone(c.Fields), Classes: slices.Clone(c.Classes)}
	q := api.StructCase{Fields: slices.Clone(c.Fields), Classes: slices.Clone(c.Classes)}
	if n := len(c.Fields); n > 0 && x.Below(3) > 0 {
		i := x.Below(n)
		v, w := halves(x, c.Fields[i].Val.V)
		p.Fields[i].Val, q.Fields[i].Val = plain(v), plain(w)
		return p, q
	}
	k := x.Below(len(c.Classes))
	v := c.Classes[k].Val
	label := trial.Pick(x, lang.Words(c.Classes[k].Set, 3)...)
	word := automaton.Word(label)
	others := lang.Minus(c.Classes[k].Set, word)
	p.Classes, q.Classes = slices.Delete(p.Classes, k, k+1), slices.Delete(q.Classes, k, k+1)
	if len(others.States) > 0 {
		p.Classes, q.Classes = append(p.Classes, api.Class{Set: others, Val: v}), append(q.Classes, api.Class{Set: others, Val: v})
	}
	// The label is there, or it is not.
	i, _ := slices.BinarySearchFunc(p.Fields, label, func(f api.Field, s string) int { return compare(f.Label, s) })
	p.Fields = slices.Insert(p.Fields, i, api.Field{Label: label, Presence: api.Present, Val: v})
	q.Classes = append(q.Classes, api.Class{Set: word, Val: value.Bottom()})
	return p, q
}

// compare compares labels.
func compare(a, b string) int {
	switch {
	case a < b:
		return -1
	case a > b:
		return 1
	}
	return 0
}

// pieces returns n random valid values that together have the instances of a valid one.
func pieces(x *trial.Random, v api.Value, n int) []api.Value {
	l := []api.Value{v}
	for len(l) < n {
		i := x.Below(len(l))
		a, b := halves(x, l[i])
		l = append(slices.Delete(l, i, i+1), made(a), made(b))
	}
	return l
}

// made returns the valid value that a sound one denotes.
func made(v api.Value) api.Value {
	return trial.Made(trial.Marked(v, bottom)).V
}
