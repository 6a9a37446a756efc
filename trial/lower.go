package trial

import (
	"cmp"
	"slices"

	"configlang/api"
	"configlang/lang"
	"configlang/parts"
	"configlang/scalar"
	"configlang/value"
)

// Lower returns a random sound value that is below a sound one.
func Lower(x *Random, v api.Value) api.Value {
	if x.Below(8) == 0 {
		return value.Bottom().V
	}
	if v.Any {
		return Value(x, 1+x.Below(2))
	}
	low := api.Value{Scalars: parts.CopyScalars(v.Scalars)}
	if x.Below(2) == 0 {
		low.Scalars = scalar.And(v.Scalars, Scalars(x))
	}
	for _, c := range v.Lists {
		for range x.Below(4) / 2 * Pick(x, 1, 1, 2) {
			low.Lists = append(low.Lists, LowerList(x, c))
		}
	}
	for _, c := range v.Structs {
		for range x.Below(4) / 2 * Pick(x, 1, 1, 2) {
			low.Structs = append(low.Structs, LowerStruct(x, c))
		}
	}
	return low
}

// LowerVal returns a random sound Val that is below one whose default is below its value.
func LowerVal(x *Random, v api.Val) api.Val {
	switch x.Below(5) {
	case 0:
		return Marked(parts.Copy(v.V), Lower(x, v.D))
	case 1:
		return Marked(parts.Copy(v.D), Lower(x, v.D))
	case 2:
		return Marked(Lower(x, v.V), value.Bottom().V)
	case 3:
		low := Lower(x, v.D)
		return Marked(low, parts.Copy(low))
	}
	return parts.CopyVal(v)
}

// LowerList returns a random list case that is below another one.
func LowerList(x *Random, c api.ListCase) api.ListCase {
	var low api.ListCase
	for _, v := range c.Items {
		low.Items = append(low.Items, LowerVal(x, v))
	}
	for _, v := range c.Rest {
		for range x.Below(3) {
			low.Items = append(low.Items, LowerVal(x, v))
		}
		if x.Below(3) > 0 {
			low.Rest = append(low.Rest, LowerVal(x, v))
		}
	}
	return low
}

// LowerStruct returns a random struct case that is below another one.
func LowerStruct(x *Random, c api.StructCase) api.StructCase {
	var low api.StructCase
	for _, f := range c.Fields {
		low.Fields = append(low.Fields, api.Field{Label: f.Label, Presence: 1 + x.Below(f.Presence), Val: LowerVal(x, f.Val)})
	}
	for _, k := range c.Classes {
		set := k.Set
		for len(set.States) > 0 && x.Below(3) == 0 {
			label := word(x, set)
			set = without(set, label)
			low.Fields = append(low.Fields, api.Field{Label: label, Presence: 1 + x.Below(2), Val: LowerVal(x, k.Val)})
		}
		for _, cut := range Divide(x, nil) {
			if half := lang.And(set, cut); len(half.States) > 0 {
				low.Classes = append(low.Classes, api.Class{Set: half, Val: LowerVal(x, k.Val)})
			}
		}
	}
	slices.SortFunc(low.Fields, func(f, g api.Field) int { return cmp.Compare(f.Label, g.Label) })
	return low
}
