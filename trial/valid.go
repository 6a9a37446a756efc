package trial

import (
	"configlang/api"
	"configlang/refine"
	"configlang/value"
)

// Made returns the valid Val that a sound one denotes, whose defaults are below their values.
func Made(v api.Val) api.Val {
	made, e := refine.Make(v)
	if e != api.OK {
		panic("a default is not below its value: " + Show(v))
	}
	return made
}

// Valid returns a random valid Val of at most a number of levels.
func Valid(x *Random, levels int) api.Val {
	return Made(Val(x, levels))
}

// Near returns two random valid Vals, of which one is often below the other one, or both are below a third one. Few are bottom.
func Near(x *Random) (api.Val, api.Val) {
	a := rich(x, func() api.Val { return Valid(x, 1+x.Below(3)) })
	lower := func() api.Val { return Made(LowerVal(x, a)) }
	switch x.Below(5) {
	case 0:
		return a, rich(x, func() api.Val { return Valid(x, 1+x.Below(3)) })
	case 1:
		return a, rich(x, lower)
	case 2:
		return rich(x, lower), a
	}
	return rich(x, lower), rich(x, lower)
}

// rich returns one of several random Vals, a bottom one only if there are no others, or by chance.
func rich(x *Random, next func() api.Val) api.Val {
	v := next()
	for range 4 {
		if !value.IsBottom(v.V) || x.Below(8) == 0 {
			break
		}
		v = next()
	}
	return v
}
