package closing

import (
	"configlang/api"
	"configlang/lang"
	"configlang/parts"
	"configlang/refine"
	"configlang/scalar"
	"configlang/unify"
	"configlang/value"
)

// The functions of this file expect valid arguments. The values that they return are sound, but not always canonical.

// The kinds of Vals in a value.
const (
	element = iota // that of an item, a rest or a field
	class          // that of a class
)

// change is what a function makes of each Val in a value.
type change func(kind int, v api.Val) api.Val

// mapped returns a value with all Vals in its cases changed.
func mapped(v api.Value, part change) api.Value {
	elements := func(l []api.Val) []api.Val {
		return parts.Each(l, func(v api.Val) api.Val { return part(element, v) })
	}
	v.Lists = parts.Each(v.Lists, func(c api.ListCase) api.ListCase {
		return api.ListCase{Items: elements(c.Items), Rest: elements(c.Rest)}
	})
	v.Structs = parts.Each(v.Structs, func(c api.StructCase) api.StructCase {
		return api.StructCase{
			Fields: parts.Each(c.Fields, func(f api.Field) api.Field {
				f.Val = part(element, f.Val)
				return f
			}),
			Classes: parts.Each(c.Classes, func(k api.Class) api.Class {
				k.Val = part(class, k.Val)
				return k
			}),
		}
	})
	return v
}

// replacing returns a function that gives some classes another Val, in all parts of a value.
func replacing(some func(api.Val) bool, other api.Val) change {
	var replace change
	replace = func(kind int, v api.Val) api.Val {
		switch kind {
		case class:
			if some(v) {
				return other
			}
			fallthrough
		default:
			// Most defaults are the values themselves: to change them again would double the work with each level.
			if parts.Same(v.V, v.D) {
				return value.Plain(mapped(v.V, replace))
			}
			return bounded(mapped(v.V, replace), mapped(v.D, replace))
		}
	}
	return replace
}

// bounded returns the Val of a value with a default, as far as the value permits it.
func bounded(v, d api.Value) api.Val {
	high := canonical(v)
	low, _ := unify.Meet(high, canonical(d))
	return api.Val{V: high, D: low}
}

// canonical returns the canonical form of a value.
func canonical(v api.Value) api.Value {
	made, _ := refine.Make(value.Plain(v))
	return made.V
}

// leavesOpen reports whether a class in some part of a value has the Val Top.
func leavesOpen(v api.Value) bool {
	open := false
	var look change
	look = func(kind int, v api.Val) api.Val {
		switch kind {
		case class:
			open = open || value.IsTop(v)
			fallthrough
		default:
			mapped(v.V, look)
			if !parts.Same(v.V, v.D) {
				mapped(v.D, look)
			}
		}
		return v
	}
	mapped(v, look)
	return open
}

// shape returns the shape of a value.
func shape(v api.Value) api.Value {
	if v.Any || len(v.Structs) == 0 {
		return value.Top().V
	}
	return api.Value{
		Scalars: scalar.All(),
		Lists:   []api.ListCase{{Rest: []api.Val{value.Top()}}},
		Structs: parts.Each(v.Structs, labels),
	}
}

// labels returns the struct case that says of each label whether another one permits it, and what the shape of its value is.
func labels(c api.StructCase) api.StructCase {
	var shapes []api.Class
	for _, f := range c.Fields {
		set, _ := lang.Bound("==", f.Label)
		shapes = append(shapes, api.Class{Set: set, Val: value.Plain(shape(f.Val.V))})
	}
	for _, k := range c.Classes {
		if !value.IsBottom(k.Val.V) {
			k.Val = value.Plain(shape(k.Val.V))
		}
		shapes = append(shapes, k)
	}
	return api.StructCase{Classes: shapes}
}
