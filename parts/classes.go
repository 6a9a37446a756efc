package parts

import (
	"cmp"
	"slices"
	"strings"

	"configlang/api"
	"configlang/automaton"
	"configlang/lang"
)

// View returns what a sound struct case says about a label.
func View(c api.StructCase, label string) (api.Val, int) {
	if f, found := Field(c, label); found {
		return f.Val, f.Presence
	}
	for _, k := range c.Classes {
		if automaton.Accepts(k.Set, label) {
			return k.Val, api.Optional
		}
	}
	return api.Val{}, api.Optional
}

// Field returns the field of a sound struct case with a label.
func Field(c api.StructCase, label string) (api.Field, bool) {
	// The fields are in order, and can be many.
	i, found := slices.BinarySearchFunc(c.Fields, label, func(f api.Field, s string) int { return strings.Compare(f.Label, s) })
	if !found {
		return api.Field{}, false
	}
	return c.Fields[i], true
}

// Unite returns classes without common labels in their canonical form: those with the same Val are one, and they are in ascending order of the least strings of their sets.
func Unite(l []api.Class) []api.Class {
	var united []api.Class
	var sets [][]api.Lang // what each of them is united of
	for _, k := range l {
		i := slices.IndexFunc(united, func(o api.Class) bool { return SameVal(k.Val, o.Val) })
		if i < 0 {
			i = len(united)
			united = append(united, k)
			sets = append(sets, nil)
		}
		sets[i] = append(sets[i], k.Set)
	}
	for i := range united {
		united[i].Set = union(sets[i])
	}
	slices.SortFunc(united, ByLeast)
	return united
}

// Strings returns the set of some strings.
func Strings(l []string) api.Lang {
	if len(l) == 0 {
		return api.Lang{}
	}
	return union(Each(l, automaton.Word))
}

// union returns the union of some sets, at least one. They are united half by half, so that large sets are united with large ones, and not with each small one.
func union(l []api.Lang) api.Lang {
	n := len(l)
	if n == 1 {
		return l[0]
	}
	return lang.Or(union(l[:n/2]), union(l[n/2:]))
}

// ByLeast compares classes without common labels by the least strings of their sets.
func ByLeast(a, b api.Class) int {
	s, _ := lang.Least(a.Set)
	t, _ := lang.Least(b.Set)
	return cmp.Or(cmp.Compare(len(s), len(t)), cmp.Compare(s, t))
}
