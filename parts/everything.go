package parts

import (
	"configlang/api"
	"configlang/scalar"
)

// Everything reports whether a value is everything, but written out.
func Everything(v api.Value) bool {
	if len(v.Lists) == 0 || len(v.Structs) == 0 {
		return false // as most values, and found without composing everything
	}
	scalars, top := scalar.All(), api.Val{V: api.Value{Any: true}, D: api.Value{Any: true}}
	return Same(v, api.Value{
		Scalars: scalars,
		Lists:   []api.ListCase{{Rest: []api.Val{top}}},
		Structs: []api.StructCase{{Classes: []api.Class{{Set: scalars.Strs, Val: top}}}},
	})
}
