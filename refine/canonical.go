package refine

import (
	"slices"

	"configlang/api"
	"configlang/parts"
)

// kind is how the cases of one kind are compared: in the order of values, and in that in which they are listed.
type kind[C any] struct {
	below   func(a, b C) bool
	compare func(a, b C) int
}

// lists returns how list cases are compared.
func lists() kind[api.ListCase] {
	return kind[api.ListCase]{below: belowList, compare: parts.CompareLists}
}

// structs returns how struct cases are compared.
func structs() kind[api.StructCase] {
	return kind[api.StructCase]{below: belowStruct, compare: parts.CompareStructs}
}

// canonicalVal reports whether a sound Val is canonical.
func canonicalVal(v api.Val) bool {
	return canonical(v.V) && (parts.Same(v.V, v.D) || canonical(v.D) && below(v.D, v.V))
}

// canonical reports whether a sound value is canonical.
func canonical(v api.Value) bool {
	return !parts.Everything(v) &&
		all(v.Lists, canonicalList) && all(v.Structs, canonicalStruct) &&
		lean(v.Lists, lists()) && lean(v.Structs, structs())
}

// bottom reports whether a sound Val has no instances.
func bottom(v api.Val) bool {
	return parts.Same(v.V, api.Value{})
}

// canonicalList reports whether a sound list case is canonical.
func canonicalList(c api.ListCase) bool {
	return !slices.ContainsFunc(c.Items, bottom) && !slices.ContainsFunc(c.Rest, bottom) &&
		all(c.Items, canonicalVal) && all(c.Rest, canonicalVal)
}

// canonicalStruct reports whether a sound struct case is canonical.
func canonicalStruct(c api.StructCase) bool {
	return all(c.Fields, func(f api.Field) bool { return !bottom(f.Val) && canonicalVal(f.Val) }) &&
		all(c.Classes, func(k api.Class) bool { return canonicalVal(k.Val) }) &&
		united(c.Classes) && slices.IsSortedFunc(c.Classes, parts.ByLeast)
}

// united reports whether no two classes have the same Val.
func united(l []api.Class) bool {
	for i, k := range l {
		if slices.ContainsFunc(l[:i], func(o api.Class) bool { return parts.SameVal(k.Val, o.Val) }) {
			return false
		}
	}
	return true
}

// lean reports whether cases are in ascending order, and none is below another one.
func lean[C any](l []C, k kind[C]) bool {
	for i := range l {
		if i > 0 && k.compare(l[i-1], l[i]) > 0 {
			return false
		}
		// Cut before the case, the list is copied by append, and stays as it is.
		if covered(l[i:i+1], append(l[:i:i], l[i+1:]...), k.below) {
			return false
		}
	}
	return true
}

// greatest returns the cases that are not below others, each once, in ascending order.
func greatest[C any](l []C, k kind[C]) []C {
	var kept []C
cases:
	for _, c := range l {
		for _, d := range kept {
			if k.below(c, d) {
				continue cases
			}
		}
		kept = append(only(kept, func(d C) bool { return !k.below(d, c) }), c)
	}
	slices.SortFunc(kept, k.compare)
	return kept
}

// all reports whether all elements of a list pass a test.
func all[T any](l []T, test func(T) bool) bool {
	return !slices.ContainsFunc(l, func(x T) bool { return !test(x) })
}

// only returns the elements of a list that pass a test.
func only[T any](l []T, test func(T) bool) []T {
	var passed []T
	for _, x := range l {
		if test(x) {
			passed = append(passed, x)
		}
	}
	return passed
}
