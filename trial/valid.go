package trial

import (
	"slices"

	"configlang/api"
	"configlang/refine"
	"configlang/scalar"
	"configlang/value"
)

// Made returns the valid Val that a sound one denotes, whose defaults are below their values.
func Made(v api.Val) api.Val {
	made, e := refine.Make(v)
	if e != api.OK {
		panic("a default is not below its value: " + Show(v))
	}
	return made
}

// Valid returns a random valid Val of at most a number of levels.
func Valid(x *Random, levels int) api.Val {
	return Made(Val(x, levels))
}

// Simple returns a random valid value, often without alternatives in its parts, so that there is one case that says what each of them may be.
func Simple(x *Random) api.Value {
	v := Value(x, 2+x.Below(3))
	cut(x, &v)
	return Made(Marked(v, value.Bottom().V)).V
}

// cut takes most alternatives, and all defaults, from the parts of a value.
func cut(x *Random, v *api.Value) {
	part := func(w *api.Val) {
		cut(x, &w.V)
		w.D = value.Bottom().V
	}
	v.Lists = v.Lists[:min(len(v.Lists), 1+x.Below(2))]
	v.Structs = v.Structs[:min(len(v.Structs), 1+x.Below(2))]
	for _, c := range v.Lists {
		for i := range c.Items {
			part(&c.Items[i])
		}
		for i := range c.Rest {
			part(&c.Rest[i])
		}
	}
	for _, c := range v.Structs {
		for i := range c.Fields {
			part(&c.Fields[i].Val)
		}
		for i := range c.Classes {
			part(&c.Classes[i].Val)
		}
	}
}

// Union returns the least upper bound of two valid values, by its definition in layer 15.
func Union(a, b api.Value) api.Value {
	if a.Any || b.Any {
		return value.Top().V
	}
	return Made(value.Plain(api.Value{
		Scalars: scalar.Or(a.Scalars, b.Scalars),
		Lists:   slices.Concat(a.Lists, b.Lists),
		Structs: slices.Concat(a.Structs, b.Structs),
	})).V
}

// Near returns two random valid Vals, of which one is often below the other one, or both are below a third one. Few are bottom.
func Near(x *Random) (api.Val, api.Val) {
	a := rich(x, func() api.Val { return Valid(x, 1+x.Below(3)) })
	lower := func() api.Val { return Made(LowerVal(x, a)) }
	switch x.Below(5) {
	case 0:
		return a, rich(x, func() api.Val { return Valid(x, 1+x.Below(3)) })
	case 1:
		return a, rich(x, lower)
	case 2:
		return rich(x, lower), a
	}
	return rich(x, lower), rich(x, lower)
}

// rich returns one of several random Vals, a bottom one only if there are no others, or by chance.
func rich(x *Random, next func() api.Val) api.Val {
	v := next()
	for range 4 {
		if !value.IsBottom(v.V) || x.Below(8) == 0 {
			break
		}
		v = next()
	}
	return v
}
