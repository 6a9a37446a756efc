package sample

import (
	"iter"
	"slices"

	"configlang/api"
	"configlang/data"
	"configlang/instance"
	"configlang/parts"
	"configlang/scalar"
	"configlang/value"
)

// The functions of this file expect valid values, and instances of them.

// least returns the simplest instance of a value that has one.
func least(v api.Value) api.Data {
	if v.Any {
		return api.Data{Kind: api.Null}
	}
	if d, ok := scalar.Least(v.Scalars); ok {
		return d
	}
	if len(v.Lists) > 0 {
		return slices.MinFunc(parts.Each(v.Lists, list), data.Compare)
	}
	return slices.MinFunc(parts.Each(v.Structs, fields), data.Compare)
}

// list returns the sample of a list case.
func list(c api.ListCase) api.Data {
	return api.Data{Kind: api.List, Items: parts.Each(c.Items, func(v api.Val) api.Data { return least(v.V) })}
}

// fields returns the sample of a struct case.
func fields(c api.StructCase) api.Data {
	return api.Data{Kind: api.Struct, Members: parts.Each(c.Fields, func(f api.Field) api.Member {
		return api.Member{Label: f.Label, Data: least(f.Val.V)}
	})}
}

// variants yields the least scalars of a value, one of each kind, and the samples of its cases.
func variants(v api.Value) iter.Seq[api.Data] {
	if v.Any {
		v = api.Value{Scalars: scalar.All(), Lists: []api.ListCase{{}}, Structs: []api.StructCase{{}}}
	}
	return func(yield func(api.Data) bool) {
		s := v.Scalars
		for _, kind := range []api.Scalars{{Null: s.Null}, {False: s.False}, {True: s.True}, {Nums: s.Nums}, {Strs: s.Strs}} {
			if d, ok := scalar.Least(kind); ok && !yield(d) {
				return
			}
		}
		for _, c := range v.Lists {
			if !yield(list(c)) {
				return
			}
		}
		for _, c := range v.Structs {
			if !yield(fields(c)) {
				return
			}
		}
	}
}

// shorter yields the instances that are left if one item or member of d is left out.
func shorter(v api.Value, d api.Data) iter.Seq[api.Data] {
	return func(yield func(api.Data) bool) {
		for i := range d.Items {
			rest := api.Data{Kind: api.List, Items: without(d.Items, i)}
			if instance.Has(v, rest) && !yield(rest) {
				return
			}
		}
		for i := range d.Members {
			rest := api.Data{Kind: api.Struct, Members: without(d.Members, i)}
			if instance.Has(v, rest) && !yield(rest) {
				return
			}
		}
	}
}

// changed yields d with other data in place of one item or member, if there is only one case that says what it may be: what that case permits there leaves d an instance.
func changed(v api.Value, d api.Data) iter.Seq[api.Data] {
	return func(yield func(api.Data) bool) {
		for _, c := range only(v.Lists) {
			for i, item := range d.Items {
				w, _ := value.Item(c, i)
				for other := range others(w.V, item) {
					if !yield(api.Data{Kind: api.List, Items: with(d.Items, i, other)}) {
						return
					}
				}
			}
		}
		for _, c := range only(v.Structs) {
			for i, m := range d.Members {
				w, _ := parts.View(c, m.Label)
				for other := range others(w.V, m.Data) {
					if !yield(api.Data{Kind: api.Struct, Members: with(d.Members, i, api.Member{Label: m.Label, Data: other})}) {
						return
					}
				}
			}
		}
	}
}

// others yields the variants of a value but those that are equal to d.
func others(v api.Value, d api.Data) iter.Seq[api.Data] {
	return func(yield func(api.Data) bool) {
		for other := range variants(v) {
			if !data.Equal(other, d) && !yield(other) {
				return
			}
		}
	}
}

// only returns a list of one element, and nothing of a longer one.
func only[T any](l []T) []T {
	if len(l) > 1 {
		return nil
	}
	return l
}

// without returns a list without element i. What is in front of it is cut off there, so that the rest is not appended in its place.
func without[T any](l []T, i int) []T {
	return append(l[:i:i], l[i+1:]...)
}

// with returns a list with another element i.
func with[T any](l []T, i int, x T) []T {
	return append(append(l[:i:i], x), l[i+1:]...)
}
