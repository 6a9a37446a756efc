package builtin_test

import (
	"slices"
	"strings"

	"configlang/api"
	"configlang/closing"
	"configlang/concrete"
	"configlang/data"
	"configlang/disjoin"
	"configlang/fixed"
	"configlang/lookup"
	"configlang/refine"
	"configlang/trial"
	"configlang/unify"
	"configlang/value"
)

// names are the names of all functions.
var names = []string{"and", "close", "concat", "keys", "len", "max", "min", "or", "range", "sort", "sum", "values"}

// wanted is Call by its definition.
func wanted(name string, args []api.Val) (api.Val, api.Errno) {
	arity := 1
	if name == "concat" {
		arity = 2
	}
	switch {
	case !slices.Contains(names, name):
		return api.Val{}, api.ErrName
	case len(args) != arity:
		return api.Val{}, api.ErrSize
	case slices.ContainsFunc(args, func(v api.Val) bool { return !refine.Valid(v) }):
		return api.Val{}, api.ErrKind
	}
	switch name {
	case "and":
		return folded(args[0], value.Top(), unify.Unify)
	case "or":
		return folded(args[0], value.Bottom(), disjoin.Join)
	case "close":
		return closing.Close(args[0])
	}
	var l []api.Data
	for _, v := range args {
		d, e := concrete.Data(v, true)
		if e != api.OK {
			return api.Val{}, e
		}
		l = append(l, d)
	}
	d, e := computed(name, l)
	if e != api.OK {
		return api.Val{}, e
	}
	return concrete.Of(d)
}

// folded applies a function of two Vals to all items of the list of a Val.
func folded(v, first api.Val, both func(a, b api.Val) (api.Val, api.Errno)) (api.Val, api.Errno) {
	n, rest, e := lookup.Length(v)
	switch {
	case e != api.OK:
		return api.Val{}, e
	case rest:
		return api.Val{}, api.ErrOpen
	}
	for i := range n {
		item, _ := lookup.Index(v, i)
		first, _ = both(first, item)
	}
	return first, api.OK
}

// isList reports whether data is a list of items of some kinds.
func isList(d api.Data, kinds ...int) bool {
	for _, item := range d.Items {
		if !slices.Contains(kinds, item.Kind) {
			return false
		}
	}
	return d.Kind == api.List
}

// computed is Call by its definition for functions of data.
func computed(name string, args []api.Data) (api.Data, api.Errno) {
	d, n := args[0], len(args[0].Items)
	switch name {
	case "concat":
		if !isList(d, api.String) || args[1].Kind != api.String {
			return api.Data{}, api.ErrKind
		}
		return joined(d.Items, args[1].Str)
	case "keys", "values":
		if d.Kind != api.Struct {
			return api.Data{}, api.ErrKind
		}
		l := items()
		for _, m := range d.Members {
			l.Items = append(l.Items, map[string]api.Data{"keys": text(m.Label), "values": m.Data}[name])
		}
		return l, api.OK
	case "len":
		if d.Kind < api.String {
			return api.Data{}, api.ErrKind
		}
		return number(int64(len(d.Str) + n + len(d.Members))), api.OK
	case "range":
		return counted(d)
	case "sort":
		if d.Kind != api.List {
			return api.Data{}, api.ErrKind
		}
		return items(inserted(d.Items)...), api.OK
	case "sum":
		return added(d)
	}
	if !isList(d, api.Number) || n == 0 {
		return api.Data{}, api.ErrKind
	}
	return inserted(d.Items)[map[string]int{"min": 0, "max": n - 1}[name]], api.OK
}

// joined is concat for strings.
func joined(l []api.Data, between string) (api.Data, api.Errno) {
	var texts []string
	for _, d := range l {
		texts = append(texts, d.Str)
	}
	s := strings.Join(texts, between)
	if len(s) > api.MaxText {
		return api.Data{}, api.ErrSize
	}
	return text(s), api.OK
}

// counted is range.
func counted(d api.Data) (api.Data, api.Errno) {
	if d.Kind != api.Number {
		return api.Data{}, api.ErrKind
	}
	for n := range int64(101) {
		if l := items(); d.Num == n*api.Unit {
			for i := range n {
				l.Items = append(l.Items, number(i))
			}
			return l, api.OK
		}
	}
	return api.Data{}, api.ErrRange
}

// inserted returns data in ascending order.
func inserted(l []api.Data) []api.Data {
	var sorted []api.Data
	for _, d := range l {
		at := 0
		for at < len(sorted) && data.Compare(sorted[at], d) <= 0 {
			at++
		}
		sorted = slices.Insert(sorted, at, d)
	}
	return sorted
}

// added is sum.
func added(d api.Data) (api.Data, api.Errno) {
	if !isList(d, api.Number) {
		return api.Data{}, api.ErrKind
	}
	total := number(0)
	for _, item := range d.Items {
		var e api.Errno
		if total.Num, e = fixed.Add(total.Num, item.Num); e != api.OK {
			return api.Data{}, e
		}
	}
	return total, api.OK
}

// number, units, text, items, of and member return data.
func number(n int64) api.Data                { return units(n * api.Unit) }
func units(u int64) api.Data                 { return api.Data{Kind: api.Number, Num: u} }
func text(s string) api.Data                 { return api.Data{Kind: api.String, Str: s} }
func items(l ...api.Data) api.Data           { return api.Data{Kind: api.List, Items: l} }
func of(l ...api.Member) api.Data            { return api.Data{Kind: api.Struct, Members: l} }
func member(s string, d api.Data) api.Member { return api.Member{Label: s, Data: d} }

// randomData returns random data, often of a kind that the functions expect.
func randomData(x *trial.Random) api.Data {
	var l []api.Data
	switch n := x.Below(4); x.Below(7) {
	case 0:
		return units(int64(x.Below(30)-3) * trial.Pick(x, int64(5000), 10000, 50000))
	case 1:
		return text(trial.Pick(x, trial.Labels()...))
	case 2:
		for range n {
			l = append(l, text(trial.Pick(x, trial.Labels()...)))
		}
	case 3:
		for range n {
			l = append(l, units(trial.Pick(x, int64(1), 20000, 5000, 0, -15000, -api.MaxUnits, api.MaxUnits-1, api.MaxUnits)))
		}
	case 4:
		for range 2 * n {
			l = append(l, trial.Data(x, 2))
		}
	default:
		return trial.Data(x, 1+x.Below(4))
	}
	return items(l...)
}

// valOf returns a random Val whose data is d.
func valOf(x *trial.Random, d api.Data) api.Val {
	v, _ := concrete.Of(d)
	switch x.Below(4) {
	case 0:
		v, _ = concrete.Loose(d)
	case 1:
		more := trial.Union(v.V, trial.Valid(x, 2).V)
		return api.Val{V: more, D: v.V}
	case 2:
		return api.Val{V: v.V}
	}
	return v
}

// random returns a random valid Val; most have data.
func random(x *trial.Random) api.Val {
	switch x.Below(8) {
	case 0:
		return trial.Valid(x, 1+x.Below(3))
	case 1:
		var c api.ListCase
		for range x.Below(4) {
			c.Items = append(c.Items, trial.Val(x, 2))
		}
		return trial.Made(value.Plain(trial.List(c)))
	}
	return valOf(x, randomData(x))
}
