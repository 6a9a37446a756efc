package express

import (
	"configlang/api"
	"configlang/automaton"
	"configlang/lang"
	"configlang/parts"
	"configlang/refine"
	"configlang/regex"
	"configlang/scalar"
	"configlang/unify"
	"configlang/value"
)

// The functions of this file expect valid Vals. Their results are valid, and may share memory with the arguments.

// exactly returns the Val of one scalar.
func exactly(d api.Data) api.Val {
	s, _ := scalar.Of(d)
	return value.Scalar(s)
}

// number returns the Val of a number in units.
func number(units int64) api.Val {
	return exactly(api.Data{Kind: api.Number, Num: units})
}

// text returns the Val of a string.
func text(s string) api.Val {
	return exactly(api.Data{Kind: api.String, Str: s})
}

// kind returns the Val of all scalars of a type.
func kind(name string) api.Val {
	s, _ := scalar.Type(name)
	return value.Scalar(s)
}

// allStructs returns the Val of all structs.
func allStructs() api.Val {
	return value.Plain(record(nil, automaton.All(), value.Top()))
}

// allLists returns the Val of all lists.
func allLists() api.Val {
	return value.Plain(api.Value{Lists: []api.ListCase{{Rest: []api.Val{value.Top()}}}})
}

// record returns the value of the structs with some fields, in which the labels of a set, which has none of theirs, have a Val, and all others are open. It is sound, unless it is nested too deeply.
func record(fields []api.Field, set api.Lang, v api.Val) api.Value {
	labels := parts.Strings(parts.Each(fields, func(f api.Field) string { return f.Label }))
	c := api.StructCase{Fields: fields}
	for _, k := range []api.Class{{Set: set, Val: v}, {Set: lang.Not(lang.Or(set, labels)), Val: value.Top()}} {
		if len(k.Set.States) > 0 {
			c.Classes = append(c.Classes, k)
		}
	}
	return api.Value{Structs: []api.StructCase{c}}
}

// single returns the structs in which one label has a Val.
func single(label string, presence int, v api.Val) (api.Val, api.Errno) {
	if presence == api.Optional {
		return made(record(nil, automaton.Word(label), v))
	}
	return made(record([]api.Field{{Label: label, Presence: presence, Val: v}}, api.Lang{}, api.Val{}))
}

// pattern returns the structs in which the labels that match a regular expression have a Val.
func pattern(label string, v api.Val) (api.Val, api.Errno) {
	set, ok := matching(label)
	if !ok {
		return api.Val{}, api.ErrKind
	}
	return made(record(nil, set, v))
}

// matching returns the set of the strings that a regular expression matches.
func matching(s string) (api.Lang, bool) {
	r, fault := regex.Parse(s)
	if fault.Errno != api.OK {
		return api.Lang{}, false
	}
	set, e := automaton.Of(r)
	return set, e == api.OK
}

// made returns the Val of a value that is sound if it is not nested too deeply.
func made(v api.Value) (api.Val, api.Errno) {
	w, e := refine.Make(value.Plain(v))
	if e != api.OK {
		return api.Val{}, api.ErrDepth
	}
	return w, api.OK
}

// all returns the greatest lower bound of Vals. Those without alternatives are put together first, so that the cases of the others are as few as possible.
func all(l []api.Val) api.Val {
	var definite, others []api.Val
	for _, v := range l {
		if parts.Alternatives(v.V) < 2 && parts.Alternatives(v.D) < 2 {
			definite = append(definite, v)
		} else {
			others = append(others, v)
		}
	}
	v, _ := unify.All(append([]api.Val{halved(definite)}, others...))
	return v
}

// halved returns the greatest lower bound of Vals, half by half, so that large structs are put together with large ones, and not with each field.
func halved(l []api.Val) api.Val {
	switch n := len(l); n {
	case 0:
		return value.Top()
	case 1:
		return l[0]
	default:
		v, _ := unify.Unify(halved(l[:n/2]), halved(l[n/2:]))
		return v
	}
}
