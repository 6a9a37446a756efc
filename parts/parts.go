// Package parts compares and copies values part by part, finds everything that is written out, resolves defaults, and unites classes. It does not ask whether they are sound, so that the layers that have found that out need not do so again for each part.
package parts

import (
	"cmp"
	"slices"

	"configlang/api"
	"configlang/automaton"
	"configlang/lang"
	"configlang/scalar"
)

// chain returns the first result that is not 0; the comparisons behind it are not made.
func chain(comparisons ...func() int) int {
	for _, compare := range comparisons {
		if n := compare(); n != 0 {
			return n
		}
	}
	return 0
}

// Compare compares sound values in the order of layer 12.
func Compare(a, b api.Value) int {
	return chain(
		func() int { return compareFlags(a.Any, b.Any) },
		func() int { return compareScalars(a.Scalars, b.Scalars) },
		func() int { return slices.CompareFunc(a.Lists, b.Lists, CompareLists) },
		func() int { return slices.CompareFunc(a.Structs, b.Structs, CompareStructs) },
	)
}

// compareFlags compares flags; one that is set is less.
func compareFlags(a, b bool) int {
	switch {
	case a == b:
		return 0
	case a:
		return -1
	}
	return 1
}

// compareScalars compares valid sets of scalars.
func compareScalars(a, b api.Scalars) int {
	if SameScalars(a, b) {
		return 0
	}
	return scalar.Compare(a, b)
}

// compareVals compares Vals by their values, then by their defaults.
func compareVals(a, b api.Val) int {
	return chain(
		func() int { return Compare(a.V, b.V) },
		func() int { return Compare(a.D, b.D) },
	)
}

// CompareLists compares list cases.
func CompareLists(a, b api.ListCase) int {
	return chain(
		func() int { return cmp.Compare(len(a.Items), len(b.Items)) },
		func() int { return compareFlags(len(a.Rest) > 0, len(b.Rest) > 0) },
		func() int { return slices.CompareFunc(a.Items, b.Items, compareVals) },
		func() int { return slices.CompareFunc(a.Rest, b.Rest, compareVals) },
	)
}

// CompareStructs compares struct cases.
func CompareStructs(a, b api.StructCase) int {
	return chain(
		func() int { return slices.CompareFunc(a.Fields, b.Fields, compareFields) },
		func() int { return slices.CompareFunc(a.Classes, b.Classes, compareClasses) },
	)
}

// compareFields compares fields.
func compareFields(a, b api.Field) int {
	return chain(
		func() int { return cmp.Compare(a.Label, b.Label) },
		func() int { return cmp.Compare(a.Presence, b.Presence) },
		func() int { return compareVals(a.Val, b.Val) },
	)
}

// compareClasses compares classes.
func compareClasses(a, b api.Class) int {
	return chain(
		func() int { return compareSets(a.Set, b.Set) },
		func() int { return compareVals(a.Val, b.Val) },
	)
}

// compareSets compares valid sets of strings.
func compareSets(a, b api.Lang) int {
	if automaton.Same(a, b) {
		return 0
	}
	return lang.Compare(a, b)
}

// Same reports whether two values have the same parts, whether they are sound or not.
func Same(a, b api.Value) bool {
	return a.Any == b.Any && SameScalars(a.Scalars, b.Scalars) &&
		slices.EqualFunc(a.Lists, b.Lists, SameList) && slices.EqualFunc(a.Structs, b.Structs, SameStruct)
}

// SameScalars reports whether two sets have the same parts, whether they are valid or not.
func SameScalars(a, b api.Scalars) bool {
	return a.Null == b.Null && a.False == b.False && a.True == b.True &&
		slices.Equal(a.Nums.Ints, b.Nums.Ints) && slices.Equal(a.Nums.Fracs, b.Nums.Fracs) && automaton.Same(a.Strs, b.Strs)
}

// SameVal reports whether two Vals have the same parts.
func SameVal(a, b api.Val) bool {
	return Same(a.V, b.V) && Same(a.D, b.D)
}

// SameList reports whether two list cases have the same parts.
func SameList(a, b api.ListCase) bool {
	return slices.EqualFunc(a.Items, b.Items, SameVal) && slices.EqualFunc(a.Rest, b.Rest, SameVal)
}

// SameStruct reports whether two struct cases have the same parts.
func SameStruct(a, b api.StructCase) bool {
	return slices.EqualFunc(a.Fields, b.Fields, func(f, g api.Field) bool {
		return f.Label == g.Label && f.Presence == g.Presence && SameVal(f.Val, g.Val)
	}) && slices.EqualFunc(a.Classes, b.Classes, func(k, l api.Class) bool {
		return automaton.Same(k.Set, l.Set) && SameVal(k.Val, l.Val)
	})
}
