package parts

import "configlang/api"

// Resolved returns the default of a Val, or its value if there is none left.
func Resolved(v api.Val) api.Value {
	if Same(v.D, api.Value{}) {
		return v.V
	}
	return v.D
}

// Alternatives returns the number of cases of a value other than everything, where its scalars, if there are any, count as one.
func Alternatives(v api.Value) int {
	n := len(v.Lists) + len(v.Structs)
	if !SameScalars(v.Scalars, api.Scalars{}) {
		n++
	}
	return n
}
