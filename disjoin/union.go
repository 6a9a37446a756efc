package disjoin

import (
	"slices"

	"configlang/api"
	"configlang/parts"
	"configlang/refine"
	"configlang/scalar"
	"configlang/value"
)

// union returns the least upper bound of valid values, which may share memory with them.
func union(values ...api.Value) api.Value {
	if slices.ContainsFunc(values, func(v api.Value) bool { return v.Any }) {
		return value.Top().V
	}
	all := api.Value{
		Scalars: scalars(values...),
		Lists:   greatest(refine.Lists, parts.Each(values, func(v api.Value) []api.ListCase { return v.Lists })...),
		Structs: greatest(refine.Structs, parts.Each(values, func(v api.Value) []api.StructCase { return v.Structs })...),
	}
	if parts.Everything(all) {
		return value.Top().V
	}
	return all
}

// scalars returns the scalars of all values. They are united half by half, so that large sets are united with large ones, and not with those of each value.
func scalars(values ...api.Value) api.Scalars {
	switch n := len(values); n {
	case 0:
		return api.Scalars{}
	case 1:
		return values[0].Scalars
	default:
		return scalar.Or(scalars(values[:n/2]...), scalars(values[n/2:]...))
	}
}

// greatest returns the cases of all lists, each of which is in order, without those that are below others.
func greatest[C any](reduce func([]C) []C, lists ...[]C) []C {
	total, longest := 0, 0
	for _, l := range lists {
		total += len(l)
		longest = max(longest, len(l))
	}
	all := make([]C, total)
	rest := all
	for _, l := range lists {
		rest = rest[copy(rest, l):]
	}
	if total == longest {
		return all // those of one list alone are reduced already
	}
	return reduce(all)
}
