package concrete

import (
	"configlang/api"
	"configlang/data"
	"configlang/lang"
	"configlang/parts"
	"configlang/scalar"
	"configlang/value"
)

// composed returns the Val of d in whose structs all other labels have a Val.
func composed(d api.Data, others api.Val) (api.Val, api.Errno) {
	if e := data.Check(d); e != api.OK {
		return api.Val{}, e
	}
	if levels(d) > api.MaxDepth {
		return api.Val{}, api.ErrDepth
	}
	var of func(d api.Data) api.Val
	of = func(d api.Data) api.Val {
		switch d.Kind {
		case api.List:
			return value.Plain(api.Value{Lists: []api.ListCase{{Items: parts.Each(d.Items, of)}}})
		case api.Struct:
			fields := parts.Each(d.Members, func(m api.Member) api.Field {
				return api.Field{Label: m.Label, Presence: api.Present, Val: of(m.Data)}
			})
			rest := api.Class{Set: lang.Not(labels(d.Members)), Val: others}
			return value.Plain(api.Value{Structs: []api.StructCase{{Fields: fields, Classes: []api.Class{rest}}}})
		}
		s, _ := scalar.Of(d)
		return value.Scalar(s)
	}
	return parts.CopyVal(of(d)), api.OK
}

// levels returns the number of levels of the value of valid data: a struct has one more than its other labels and its members.
func levels(d api.Data) int {
	deepest := 0
	for _, item := range d.Items {
		deepest = max(deepest, levels(item))
	}
	if d.Kind == api.Struct {
		deepest = 1
	}
	for _, m := range d.Members {
		deepest = max(deepest, levels(m.Data))
	}
	return deepest + 1
}

// labels returns the set of the labels of members.
func labels(l []api.Member) api.Lang {
	return parts.Strings(parts.Each(l, func(m api.Member) string { return m.Label }))
}
