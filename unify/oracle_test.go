package unify_test

import (
	"slices"

	"configlang/api"
	"configlang/lang"
	"configlang/scalar"
	"configlang/trial"
	"configlang/value"
)

// bound returns the greatest lower bound of two valid Vals, by its definition.
func bound(a, b api.Val) api.Val {
	return trial.Made(boundVal(a, b))
}

// boundVal returns the bounds of all pairs of cases, also of those that have none: these have a bottom item or field.
func boundVal(a, b api.Val) api.Val {
	return api.Val{V: boundValue(a.V, b.V), D: boundValue(a.D, b.D)}
}

// boundValue is boundVal for a value.
func boundValue(a, b api.Value) api.Value {
	switch {
	case a.Any:
		return b
	case b.Any:
		return a
	}
	v := api.Value{Scalars: scalar.And(a.Scalars, b.Scalars)}
	for _, c := range a.Lists {
		for _, d := range b.Lists {
			if l, ok := boundList(c, d); ok {
				v.Lists = append(v.Lists, l)
			}
		}
	}
	for _, c := range a.Structs {
		for _, d := range b.Structs {
			v.Structs = append(v.Structs, boundStruct(c, d))
		}
	}
	return v
}

// boundList is boundVal for list cases; false if their lengths do not agree.
func boundList(a, b api.ListCase) (api.ListCase, bool) {
	var c api.ListCase
	for i := range max(len(a.Items), len(b.Items)) {
		v, ok := value.Item(a, i)
		w, ok2 := value.Item(b, i)
		if !ok || !ok2 {
			return c, false
		}
		c.Items = append(c.Items, boundVal(v, w))
	}
	if len(a.Rest) > 0 && len(b.Rest) > 0 {
		c.Rest = []api.Val{boundVal(a.Rest[0], b.Rest[0])}
	}
	return c, true
}

// boundStruct is boundVal for struct cases.
func boundStruct(a, b api.StructCase) api.StructCase {
	var labels []string
	for _, f := range slices.Concat(a.Fields, b.Fields) {
		labels = append(labels, f.Label)
	}
	slices.Sort(labels)
	labels = slices.Compact(labels)
	var c api.StructCase
	for _, label := range labels {
		v, p := value.View(a, label)
		w, q := value.View(b, label)
		c.Fields = append(c.Fields, api.Field{Label: label, Presence: min(p, q), Val: boundVal(v, w)})
	}
	rest := trial.Others(api.Val{}, labels...).Set
	for _, k := range a.Classes {
		for _, l := range b.Classes {
			if set := lang.And(rest, lang.And(k.Set, l.Set)); len(set.States) > 0 {
				c.Classes = append(c.Classes, api.Class{Set: set, Val: boundVal(k.Val, l.Val)})
			}
		}
	}
	return c
}
