package refine

import (
	"slices"

	"configlang/api"
	"configlang/parts"
	"configlang/value"
)

// maker makes sound values canonical; it notes whether a default turns out not to be below its value.
type maker struct {
	wrong bool
}

// val returns the canonical form of a Val.
func (m *maker) val(v api.Val) api.Val {
	made := m.value(v.V)
	if parts.Same(v.V, v.D) {
		return api.Val{V: made, D: parts.Copy(made)}
	}
	d := m.value(v.D)
	m.wrong = m.wrong || !below(d, made)
	return api.Val{V: made, D: d}
}

// value returns the canonical form of a value.
func (m *maker) value(v api.Value) api.Value {
	if v.Any {
		return value.Top().V
	}
	made := api.Value{
		Scalars: parts.CopyScalars(v.Scalars),
		Lists:   greatest(kept(v.Lists, m.list), lists()),
		Structs: greatest(kept(v.Structs, m.fields), structs()),
	}
	if parts.Everything(made) {
		return value.Top().V
	}
	return made
}

// kept returns the canonical forms of cases, as far as they are not left out.
func kept[C any](l []C, form func(C) (C, bool)) []C {
	var cases []C
	for _, c := range l {
		if made, ok := form(c); ok {
			cases = append(cases, made)
		}
	}
	return cases
}

// list returns the canonical form of a list case; false if no list is an instance of it.
func (m *maker) list(c api.ListCase) (api.ListCase, bool) {
	made := api.ListCase{Items: parts.Each(c.Items, m.val), Rest: parts.Each(c.Rest, m.val)}
	if slices.ContainsFunc(made.Rest, bottom) {
		made.Rest = nil
	}
	return made, !slices.ContainsFunc(made.Items, bottom)
}

// fields returns the canonical form of a struct case; false if no struct is an instance of it.
func (m *maker) fields(c api.StructCase) (api.StructCase, bool) {
	made := api.StructCase{Fields: parts.Each(c.Fields, func(f api.Field) api.Field {
		f.Val = m.val(f.Val)
		return f
	})}
	made.Classes = parts.Unite(parts.Each(c.Classes, func(k api.Class) api.Class {
		return api.Class{Set: parts.CopySet(k.Set), Val: m.val(k.Val)}
	}))
	return made, !slices.ContainsFunc(made.Fields, func(f api.Field) bool { return bottom(f.Val) })
}
