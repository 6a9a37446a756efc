package parts

import (
	"slices"

	"configlang/api"
)

// Copy returns a copy of a value, none of whose parts share memory with it or with each other.
func Copy(v api.Value) api.Value {
	return api.Value{
		Any:     v.Any,
		Scalars: CopyScalars(v.Scalars),
		Lists:   Each(v.Lists, CopyList),
		Structs: Each(v.Structs, CopyStruct),
	}
}

// CopyVal returns a copy of a Val.
func CopyVal(v api.Val) api.Val {
	return api.Val{V: Copy(v.V), D: Copy(v.D)}
}

// CopyScalars returns a copy of a set of scalars.
func CopyScalars(s api.Scalars) api.Scalars {
	s.Nums = api.Nums{Ints: slices.Clone(s.Nums.Ints), Fracs: slices.Clone(s.Nums.Fracs)}
	s.Strs = CopySet(s.Strs)
	return s
}

// CopySet returns a copy of a set of strings.
func CopySet(l api.Lang) api.Lang {
	return api.Lang{States: Each(l.States, func(s api.State) api.State {
		s.Edges = slices.Clone(s.Edges)
		return s
	})}
}

// CopyList returns a copy of a list case.
func CopyList(c api.ListCase) api.ListCase {
	return api.ListCase{Items: Each(c.Items, CopyVal), Rest: Each(c.Rest, CopyVal)}
}

// CopyStruct returns a copy of a struct case.
func CopyStruct(c api.StructCase) api.StructCase {
	return api.StructCase{
		Fields: Each(c.Fields, func(f api.Field) api.Field {
			f.Val = CopyVal(f.Val)
			return f
		}),
		Classes: Each(c.Classes, func(k api.Class) api.Class {
			return api.Class{Set: CopySet(k.Set), Val: CopyVal(k.Val)}
		}),
	}
}

// Each returns what a function makes of each element of a list; nil for an empty one.
func Each[T, U any](l []T, change func(T) U) []U {
	if len(l) == 0 {
		return nil
	}
	changed := make([]U, 0, len(l))
	for _, x := range l {
		changed = append(changed, change(x))
	}
	return changed
}
