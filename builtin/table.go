package builtin

import (
	"slices"

	"configlang/api"
	"configlang/closing"
	"configlang/concrete"
	"configlang/disjoin"
	"configlang/lookup"
	"configlang/unify"
	"configlang/value"
)

// function is a function of the language; call expects as many valid arguments as it has.
type function struct {
	name  string
	arity int
	call  func(args []api.Val) (api.Val, api.Errno)
}

// functions returns all functions in ascending order of their names.
func functions() []function {
	return []function{
		{"and", 1, and},
		{"close", 1, func(args []api.Val) (api.Val, api.Errno) { return closing.Close(args[0]) }},
		{"concat", 2, ofData(concat)},
		{"keys", 1, ofData(keys)},
		{"len", 1, ofData(length)},
		{"max", 1, ofData(extreme(slices.Max[[]int64]))},
		{"min", 1, ofData(extreme(slices.Min[[]int64]))},
		{"or", 1, or},
		{"range", 1, ofData(count)},
		{"sort", 1, ofData(sorted)},
		{"sum", 1, ofData(sum)},
		{"values", 1, ofData(members)},
	}
}

// named returns the function with a name.
func named(name string) (function, bool) {
	l := functions()
	i := slices.IndexFunc(l, func(f function) bool { return f.name == name })
	if i < 0 {
		return function{}, false
	}
	return l[i], true
}

// ofData returns the function that applies a function of data to the data of its arguments.
func ofData(apply func(args []api.Data) (api.Data, api.Errno)) func(args []api.Val) (api.Val, api.Errno) {
	return func(args []api.Val) (api.Val, api.Errno) {
		var l []api.Data
		for _, v := range args {
			d, e := concrete.Data(v, true)
			if e != api.OK {
				return api.Val{}, e
			}
			l = append(l, d)
		}
		d, e := apply(l)
		if e != api.OK {
			return api.Val{}, e
		}
		return concrete.Of(d)
	}
}

// and returns the greatest lower bound of the items of a list.
func and(args []api.Val) (api.Val, api.Errno) {
	l, e := elements(args[0])
	if e != api.OK {
		return api.Val{}, e
	}
	return unify.All(l)
}

// or returns the disjunction of the items of a list.
func or(args []api.Val) (api.Val, api.Errno) {
	l, e := elements(args[0])
	if e != api.OK || len(l) == 0 {
		return value.Bottom(), e
	}
	return disjoin.Or(l, make([]bool, len(l)))
}

// elements returns the items of the list of a valid Val, if no others may follow.
func elements(v api.Val) ([]api.Val, api.Errno) {
	_, rest, e := lookup.Length(v)
	switch {
	case e != api.OK:
		return nil, e
	case rest:
		return nil, api.ErrOpen
	}
	return disjoin.Resolve(v).Lists[0].Items, api.OK
}
