package sample_test

import (
	"slices"

	"configlang/api"
	"configlang/data"
	"configlang/lang"
	"configlang/numset"
	"configlang/trial"
	"configlang/value"
)

// The functions below are the definitions of the chapter, for valid values and instances of them.

// least is the definition of Least; false for bottom.
func least(v api.Value) (api.Data, bool) {
	l := variants(v)
	scalars := slices.DeleteFunc(slices.Clone(l), func(d api.Data) bool { return d.Kind == api.List || d.Kind == api.Struct })
	lists := slices.DeleteFunc(slices.Clone(l), func(d api.Data) bool { return d.Kind != api.List })
	switch {
	case len(l) == 0:
		return api.Data{}, false
	case len(scalars) > 0:
		return scalars[0], true
	case len(lists) > 0:
		return slices.MinFunc(lists, data.Compare), true
	}
	return slices.MinFunc(l, data.Compare), true
}

// variants is the definition of Variants.
func variants(v api.Value) []api.Data {
	if v.Any {
		return []api.Data{null, boolean(0), boolean(1), number(0), text(""), items(), of()}
	}
	var l []api.Data
	s := v.Scalars
	for i, has := range []bool{s.Null, s.False, s.True} {
		if has {
			l = append(l, []api.Data{null, boolean(0), boolean(1)}[i])
		}
	}
	if u, ok := numset.Least(s.Nums); ok {
		l = append(l, number(u))
	}
	if w, ok := lang.Least(s.Strs); ok {
		l = append(l, text(w))
	}
	for _, c := range v.Lists {
		d := items()
		for _, item := range c.Items {
			e, _ := least(item.V)
			d.Items = append(d.Items, e)
		}
		l = append(l, d)
	}
	for _, c := range v.Structs {
		d := of()
		for _, f := range c.Fields {
			e, _ := least(f.Val.V)
			d.Members = append(d.Members, member(f.Label, e))
		}
		l = append(l, d)
	}
	return l
}

// grow is the definition of Grow.
func grow(v api.Value, d api.Data) []api.Data {
	var l []api.Data
	for i := range d.Items {
		l = append(l, items(slices.Delete(slices.Clone(d.Items), i, i+1)...))
	}
	for i := range d.Members {
		l = append(l, of(slices.Delete(slices.Clone(d.Members), i, i+1)...))
	}
	if d.Kind == api.List && len(v.Lists) == 1 {
		for i := range d.Items {
			u, _ := value.Item(v.Lists[0], i)
			for _, other := range variants(u.V) {
				changed := slices.Clone(d.Items)
				changed[i] = other
				l = append(l, items(changed...))
			}
		}
	}
	if d.Kind == api.Struct && len(v.Structs) == 1 {
		for i, m := range d.Members {
			u, _ := value.View(v.Structs[0], m.Label)
			for _, other := range variants(u.V) {
				changed := slices.Clone(d.Members)
				changed[i].Data = other
				l = append(l, of(changed...))
			}
		}
	}
	return slices.DeleteFunc(l, func(e api.Data) bool { return data.Check(e) != api.OK || !trial.Has(v, e) || data.Equal(e, d) })
}
