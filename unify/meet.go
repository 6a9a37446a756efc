package unify

import (
	"iter"
	"maps"
	"slices"

	"configlang/api"
	"configlang/lang"
	"configlang/parts"
	"configlang/refine"
	"configlang/scalar"
	"configlang/value"
)

// The functions of this file expect valid arguments. Their results are valid, and may share memory with the arguments.

// both returns the greatest lower bound of two Vals.
func both(a, b api.Val) api.Val {
	v := meet(a.V, b.V)
	// Most defaults are the values themselves: to unify them again would double the work with each level.
	if parts.Same(a.V, a.D) && parts.Same(b.V, b.D) {
		return value.Plain(v)
	}
	return api.Val{V: v, D: meet(a.D, b.D)}
}

// meet returns the greatest lower bound of two values.
func meet(a, b api.Value) api.Value {
	switch {
	case a.Any:
		return b
	case b.Any, parts.Same(a, b):
		return a
	}
	return api.Value{
		Scalars: common(a.Scalars, b.Scalars),
		Lists:   bounds(a.Lists, b.Lists, sequence, refine.Lists),
		Structs: bounds(a.Structs, b.Structs, fields, refine.Structs),
	}
}

// common returns the scalars that are in both sets.
func common(a, b api.Scalars) api.Scalars {
	if parts.SameScalars(a, b) {
		return a // as most sets of values with cases, which are empty
	}
	return scalar.And(a, b)
}

// pairs yields each element of a with each one of b.
func pairs[T any](a, b []T) iter.Seq2[T, T] {
	return func(yield func(T, T) bool) {
		for _, x := range a {
			for _, y := range b {
				if !yield(x, y) {
					return
				}
			}
		}
	}
}

// bounds returns the greatest lower bounds of all pairs of cases, as far as these exist, reduced to the greatest ones.
func bounds[C any](a, b []C, bound func(a, b C) (C, bool), greatest func([]C) []C) []C {
	var l []C
	for c, d := range pairs(a, b) {
		if low, ok := bound(c, d); ok {
			l = append(l, low)
		}
	}
	if len(l) < 2 {
		return l // as most, and valid already
	}
	return greatest(l)
}

// sequence returns the greatest lower bound of two list cases; false if there is none.
func sequence(a, b api.ListCase) (api.ListCase, bool) {
	n := max(len(a.Items), len(b.Items))
	if !permits(a, n) || !permits(b, n) {
		return api.ListCase{}, false
	}
	var c api.ListCase
	for i := range n {
		v, _ := value.Item(a, i)
		w, _ := value.Item(b, i)
		item := both(v, w)
		if value.IsBottom(item.V) {
			return api.ListCase{}, false
		}
		c.Items = append(c.Items, item)
	}
	for v, w := range pairs(a.Rest, b.Rest) {
		if rest := both(v, w); !value.IsBottom(rest.V) {
			c.Rest = append(c.Rest, rest)
		}
	}
	return c, true
}

// permits reports whether lists with n items, at least those of Items, may be instances of a list case.
func permits(c api.ListCase, n int) bool {
	return len(c.Items) == n || len(c.Rest) > 0
}

// fields returns the greatest lower bound of two struct cases; false if there is none.
func fields(a, b api.StructCase) (api.StructCase, bool) {
	var c api.StructCase
	for _, label := range labels(a, b) {
		v, p := parts.View(a, label)
		w, q := parts.View(b, label)
		field := api.Field{Label: label, Presence: min(p, q), Val: both(v, w)}
		if value.IsBottom(field.Val.V) {
			return api.StructCase{}, false
		}
		c.Fields = append(c.Fields, field)
	}
	c.Classes = classes(a, b)
	return c, true
}

// labels returns the labels of the fields of both cases, each once, in ascending order.
func labels(a, b api.StructCase) []string {
	found := map[string]bool{}
	for _, f := range slices.Concat(a.Fields, b.Fields) {
		found[f.Label] = true
	}
	return slices.Sorted(maps.Keys(found))
}

// classes returns what both cases say about all labels that neither has as a field: such a label is in one class of each.
func classes(a, b api.StructCase) []api.Class {
	var l []api.Class
	for k, m := range pairs(a.Classes, b.Classes) {
		if apart(k.Set, m.Set) {
			continue // as most of many
		}
		if set := lang.And(k.Set, m.Set); len(set.States) > 0 {
			l = append(l, api.Class{Set: set, Val: both(k.Val, m.Val)})
		}
	}
	return parts.Unite(l)
}

// apart reports whether two valid sets, which are not empty, have no common string, as the beginning that all strings of the one have differs from that of the other.
func apart(a, b api.Lang) bool {
	s, t := a.States[0], b.States[0]
	for !s.Accept && !t.Accept && len(s.Edges) == 1 && len(t.Edges) == 1 {
		e, f := s.Edges[0], t.Edges[0]
		if e.Hi < f.Lo || f.Hi < e.Lo {
			return true
		}
		s, t = a.States[e.To], b.States[f.To]
	}
	return false
}
