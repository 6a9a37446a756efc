package refine

import (
	"slices"

	"configlang/api"
	"configlang/lang"
	"configlang/parts"
	"configlang/scalar"
)

// leq reports whether a Val is below another one; both are sound, and their defaults are below their values.
func leq(a, b api.Val) bool {
	// The default of a is below its value, and that is below that of b. Most defaults are the values themselves: to compare them again would double the work with each level.
	return below(a.V, b.V) && (parts.Same(b.V, b.D) || below(a.D, b.D))
}

// below reports whether a sound value is below another one.
func below(a, b api.Value) bool {
	if a.Any || b.Any {
		return b.Any
	}
	return subset(a.Scalars, b.Scalars) &&
		covered(a.Lists, b.Lists, belowList) && covered(a.Structs, b.Structs, belowStruct)
}

// subset reports whether every scalar of a valid set is in another one.
func subset(a, b api.Scalars) bool {
	return parts.SameScalars(a, b) || scalar.Subset(a, b)
}

// covered reports whether each of some cases is below one of others.
func covered[C any](l, others []C, below func(a, b C) bool) bool {
cases:
	for _, c := range l {
		for _, d := range others {
			if below(c, d) {
				continue cases
			}
		}
		return false
	}
	return true
}

// belowList reports whether a sound list case is below another one.
func belowList(a, b api.ListCase) bool {
	n, all := len(b.Items), len(a.Items)
	if all < n || len(b.Rest) == 0 && (all > n || len(a.Rest) > 0) {
		return false
	}
	// Cut to its length, the list is copied by append, and the memory behind it stays as it is.
	further := append(a.Items[n:all:all], a.Rest...)
	return slices.EqualFunc(a.Items[:n], b.Items, leq) &&
		!slices.ContainsFunc(further, func(v api.Val) bool { return !leq(v, b.Rest[0]) })
}

// belowStruct reports whether a sound struct case is below another one.
func belowStruct(a, b api.StructCase) bool {
	for _, f := range b.Fields {
		if v, presence := parts.View(a, f.Label); presence > f.Presence || !leq(v, f.Val) {
			return false
		}
	}
	for _, f := range a.Fields {
		if v, presence := parts.View(b, f.Label); presence == api.Optional && !leq(f.Val, v) {
			return false
		}
	}
	return belowClasses(a.Classes, b.Classes)
}

// belowClasses reports whether at each label that is in a class of both lists the Val of the first one is below that of the second one.
func belowClasses(a, b []api.Class) bool {
	for _, k := range a {
		for _, l := range b {
			if !leq(k.Val, l.Val) && len(lang.And(k.Set, l.Set).States) > 0 {
				return false
			}
		}
	}
	return true
}
