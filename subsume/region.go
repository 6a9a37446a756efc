package subsume

import (
	"slices"

	"configlang/api"
	"configlang/parts"
	"configlang/scalar"
)

// The functions of this package expect parts of valid values, but for those that are exported.

// region is data that is an instance of some values, and of none of others.
type region struct {
	scalars api.Scalars
	lists   cases[api.ListCase]
	structs cases[api.StructCase]
}

// cases says of a list or a struct that in each list of in there is a case of which it is an instance, and none in out.
type cases[C any] struct {
	in  [][]C
	out []C
}

// everything returns the region of all data.
func everything() region {
	return region{scalars: scalar.All()}
}

// and returns the region of the data that is an instance of a value, too.
func (r region) and(v api.Value) region {
	if v.Any {
		return r
	}
	return region{scalars: scalar.And(r.scalars, v.Scalars), lists: r.lists.and(v.Lists), structs: r.structs.and(v.Structs)}
}

// minus returns the region of the data that is no instance of a value.
func (r region) minus(v api.Value) region {
	if v.Any {
		return everything().and(api.Value{})
	}
	return region{
		scalars: scalar.Minus(r.scalars, v.Scalars),
		lists:   r.lists.minus(v.Lists, parts.SameList),
		structs: r.structs.minus(v.Structs, parts.SameStruct),
	}
}

// and returns what is left if one of some cases has to apply, too.
func (c cases[C]) and(l []C) cases[C] {
	c.in = append(c.in[:len(c.in):len(c.in)], l)
	return c
}

// minus returns what is left if none of some cases may apply. Each case is noted once.
func (c cases[C]) minus(l []C, same func(a, b C) bool) cases[C] {
	c.out = c.out[:len(c.out):len(c.out)]
	for _, x := range l {
		if !contains(c.out, x, same) {
			c.out = append(c.out, x)
		}
	}
	return c
}

// contains reports whether a case is in a list.
func contains[C any](l []C, x C, same func(a, b C) bool) bool {
	return slices.ContainsFunc(l, func(y C) bool { return same(x, y) })
}

// least returns data of a region that has at most a number of levels; false if there is none.
func (r region) least(levels int) (api.Data, bool) {
	if levels == 0 {
		return api.Data{}, false
	}
	if d, ok := scalar.Least(r.scalars); ok {
		return d, true
	}
	if d, ok := choose(r.lists, parts.SameList, func(in, out []api.ListCase) (api.Data, bool) { return list(in, out, levels) }); ok {
		return d, true
	}
	return choose(r.structs, parts.SameStruct, func(in, out []api.StructCase) (api.Data, bool) { return fields(in, out, levels) })
}

// finder finds data that is an instance of all of some cases, and of none of others.
type finder[C any] func(in, out []C) (api.Data, bool)

// possible reports whether some cases have a common instance.
func (f finder[C]) possible(in []C) bool {
	_, ok := f(in, nil)
	return ok
}

// relevant returns the cases of out that have common instances with those of in; others make no difference.
func (f finder[C]) relevant(in, out []C) []C {
	if len(out) < 2 {
		return out // to examine one takes no longer
	}
	var l []C
	for _, x := range out {
		if f.possible(append(in[:len(in):len(in)], x)) {
			l = append(l, x)
		}
	}
	return l
}

// choose returns data of one kind for which the cases say what they do: it tries all choices of one case from each list of in.
func choose[C any](c cases[C], same func(a, b C) bool, find finder[C]) (api.Data, bool) {
	if slices.ContainsFunc(c.in, func(l []C) bool { return len(l) == 0 }) {
		return api.Data{}, false
	}
	var next func(chosen []C, rest [][]C) (api.Data, bool)
	next = func(chosen []C, rest [][]C) (api.Data, bool) {
		if len(rest) == 0 {
			return find(chosen, find.relevant(chosen, c.out))
		}
		for _, x := range rest[0] {
			if contains(c.out, x, same) {
				continue
			}
			with := append(chosen[:len(chosen):len(chosen)], x)
			if len(with) > 1 && !find.possible(with) {
				continue
			}
			if d, ok := next(with, rest[1:]); ok {
				return d, true
			}
		}
		return api.Data{}, false
	}
	return next(nil, c.in)
}
