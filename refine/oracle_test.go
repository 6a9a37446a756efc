package refine_test

import (
	"slices"

	"configlang/api"
	"configlang/automaton"
	"configlang/lang"
	"configlang/parts"
	"configlang/scalar"
	"configlang/trial"
	"configlang/value"
)

// labels returns so many labels that any field of two struct cases, and any two classes with a common label, have one of them.
func labels(a, b api.StructCase) []string {
	l := trial.Labels()
	for _, f := range slices.Concat(a.Fields, b.Fields) {
		l = append(l, f.Label)
	}
	for _, k := range a.Classes {
		for _, m := range b.Classes {
			l = append(l, lang.Words(lang.And(k.Set, m.Set), 2)...)
		}
	}
	return l
}

// part returns the number of the field or the class of a struct case that speaks of a label.
func part(c api.StructCase, label string) int {
	if i := slices.IndexFunc(c.Fields, func(f api.Field) bool { return f.Label == label }); i >= 0 {
		return i
	}
	return len(c.Fields) + slices.IndexFunc(c.Classes, func(k api.Class) bool { return automaton.Accepts(k.Set, label) })
}

// isBelowVal is the order of Vals, by its definition.
func isBelowVal(a, b api.Val) bool {
	return isBelow(a.V, b.V) && isBelow(a.D, b.D)
}

// isBelow is the order of values, by its definition.
func isBelow(a, b api.Value) bool {
	if b.Any {
		return true
	}
	if a.Any || !scalar.Subset(a.Scalars, b.Scalars) {
		return false
	}
	for _, c := range a.Lists {
		if !slices.ContainsFunc(b.Lists, func(d api.ListCase) bool { return isBelowList(c, d) }) {
			return false
		}
	}
	for _, c := range a.Structs {
		if !slices.ContainsFunc(b.Structs, func(d api.StructCase) bool { return isBelowStruct(c, d) }) {
			return false
		}
	}
	return true
}

// isBelowList is the order of list cases, by its definition.
func isBelowList(a, b api.ListCase) bool {
	if len(a.Items) < len(b.Items) || len(b.Rest) == 0 && len(a.Items) > len(b.Items) || len(b.Rest) == 0 && len(a.Rest) > 0 {
		return false
	}
	for i := range a.Items {
		v, ok := value.Item(a, i)
		w, ok2 := value.Item(b, i)
		if !ok || !ok2 || !isBelowVal(v, w) {
			return false
		}
	}
	return len(a.Rest) == 0 || isBelowVal(a.Rest[0], b.Rest[0])
}

// isBelowStruct is the order of struct cases, by its definition, for as many labels as can differ.
func isBelowStruct(a, b api.StructCase) bool {
	seen := map[[2]int]bool{}
	for _, label := range labels(a, b) {
		parts := [2]int{part(a, label), part(b, label)}
		if seen[parts] {
			continue
		}
		seen[parts] = true
		v, p := value.View(a, label)
		w, q := value.View(b, label)
		if p > q || !isBelowVal(v, w) {
			return false
		}
	}
	return true
}

// alone returns the value of one case.
func alone[C any](c C) api.Value {
	switch c := any(c).(type) {
	case api.ListCase:
		return trial.List(c)
	case api.StructCase:
		return trial.Record(c)
	}
	panic("a case")
}

// shown returns a text of a value.
func shown(v api.Value) string {
	return trial.Show(value.Plain(v))
}

// valsOf returns the Vals in the cases of a value.
func valsOf(v api.Value) []api.Val {
	var l []api.Val
	for _, c := range v.Lists {
		l = append(l, slices.Concat(c.Items, c.Rest)...)
	}
	for _, c := range v.Structs {
		for _, f := range c.Fields {
			l = append(l, f.Val)
		}
		for _, k := range c.Classes {
			l = append(l, k.Val)
		}
	}
	return l
}

// isValid is the definition of valid Vals.
func isValid(v api.Val) bool {
	return isGood(v.V) && isGood(v.D) && isBelow(v.D, v.V)
}

// isGood is the definition of valid values.
func isGood(v api.Value) bool {
	return value.Sound(value.Plain(v)) && isCanonical(v)
}

// isCanonical is the definition of valid values, for sound ones.
func isCanonical(v api.Value) bool {
	if !v.Any && isEverything(v) || !ranked(v.Lists) || !ranked(v.Structs) {
		return false
	}
	for _, c := range v.Lists {
		if slices.ContainsFunc(slices.Concat(c.Items, c.Rest), func(u api.Val) bool { return value.IsBottom(u.V) }) {
			return false
		}
	}
	for _, c := range v.Structs {
		if slices.ContainsFunc(c.Fields, func(f api.Field) bool { return value.IsBottom(f.Val.V) }) || !isDivided(c.Classes) {
			return false
		}
	}
	return !slices.ContainsFunc(valsOf(v), func(u api.Val) bool {
		return !isCanonical(u.V) || !isCanonical(u.D) || !isBelow(u.D, u.V)
	})
}

// isEverything reports whether each scalar, list and struct is clearly an instance of a value.
func isEverything(v api.Value) bool {
	return scalar.Subset(scalar.All(), v.Scalars) &&
		slices.ContainsFunc(v.Lists, func(c api.ListCase) bool {
			return len(c.Items) == 0 && len(c.Rest) == 1 && value.IsTop(c.Rest[0])
		}) &&
		slices.ContainsFunc(v.Structs, func(c api.StructCase) bool {
			return len(c.Fields) == 0 && !slices.ContainsFunc(c.Classes, func(k api.Class) bool { return !value.IsTop(k.Val) })
		})
}

// ranked reports whether cases are in ascending order, and none is below another one.
func ranked[C any](l []C) bool {
	for i := range l {
		for j := range l {
			if i != j && isBelow(alone(l[i]), alone(l[j])) || i < j && value.Compare(alone(l[i]), alone(l[j])) >= 0 {
				return false
			}
		}
	}
	return true
}

// isDivided reports whether classes have different Vals, and their least strings are in ascending order.
func isDivided(l []api.Class) bool {
	for i := range l {
		for j := range i {
			s, _ := lang.Least(l[j].Set)
			t, _ := lang.Least(l[i].Set)
			if value.Equal(l[i].Val, l[j].Val) || len(s) > len(t) || len(s) == len(t) && s > t {
				return false
			}
		}
	}
	return true
}

// formVal returns the canonical form of a Val, by its definition; it notes in ok whether each default is below its value.
func formVal(v api.Val, ok *bool) api.Val {
	made := api.Val{V: form(v.V, ok), D: form(v.D, ok)}
	if !isBelow(made.D, made.V) {
		*ok = false
	}
	return made
}

// form returns the canonical form of a value, by its definition.
func form(v api.Value, ok *bool) api.Value {
	made := api.Value{Any: v.Any, Scalars: parts.CopyScalars(v.Scalars)}
	for _, c := range v.Lists {
		var d api.ListCase
		leave := false
		for _, u := range c.Items {
			d.Items = append(d.Items, formVal(u, ok))
			leave = leave || value.IsBottom(d.Items[len(d.Items)-1].V)
		}
		for _, u := range c.Rest {
			if u = formVal(u, ok); !value.IsBottom(u.V) {
				d.Rest = append(d.Rest, u)
			}
		}
		if !leave {
			made.Lists = append(made.Lists, d)
		}
	}
	for _, c := range v.Structs {
		if d, keep := formStruct(c, ok); keep {
			made.Structs = append(made.Structs, d)
		}
	}
	made.Lists = topmost(made.Lists)
	made.Structs = topmost(made.Structs)
	if isEverything(made) {
		return value.Top().V
	}
	return made
}

// formStruct returns the canonical form of a struct case; false if it is left out.
func formStruct(c api.StructCase, ok *bool) (api.StructCase, bool) {
	var d api.StructCase
	keep := true
	for _, f := range c.Fields {
		f.Val = formVal(f.Val, ok)
		keep = keep && !value.IsBottom(f.Val.V)
		d.Fields = append(d.Fields, f)
	}
classes:
	for _, k := range c.Classes {
		k.Val = formVal(k.Val, ok)
		for i := range d.Classes {
			if value.Equal(d.Classes[i].Val, k.Val) {
				d.Classes[i].Set = lang.Or(d.Classes[i].Set, k.Set)
				continue classes
			}
		}
		d.Classes = append(d.Classes, k)
	}
	slices.SortFunc(d.Classes, func(k, l api.Class) int { return lang.Compare(k.Set, l.Set) })
	return d, keep
}

// topmost returns the cases that are not below others, each once, sorted.
func topmost[C any](l []C) []C {
	l = slices.Clone(l)
	slices.SortFunc(l, func(c, d C) int { return value.Compare(alone(c), alone(d)) })
	l = slices.CompactFunc(l, func(c, d C) bool { return value.Compare(alone(c), alone(d)) == 0 })
	var top []C
	for i, c := range l {
		others := slices.Concat(l[:i], l[i+1:])
		if !slices.ContainsFunc(others, func(d C) bool { return isBelow(alone(c), alone(d)) }) {
			top = append(top, c)
		}
	}
	return top
}
