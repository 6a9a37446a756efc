package express

import (
	"slices"
	"strings"

	"configlang/api"
	"configlang/concrete"
	"configlang/lang"
	"configlang/lookup"
	"configlang/operator"
	"configlang/scalar"
	"configlang/value"
)

// operand is the concrete data of a Val, unless that is bottom, or unknown as yet.
type operand struct {
	data            api.Data
	bottom, unknown bool
}

// operandOf returns a valid Val as an operand.
func operandOf(v api.Val) operand {
	d, e := concrete.Data(v, true)
	return operand{data: d, bottom: e == api.ErrBottom, unknown: e != api.OK && e != api.ErrBottom}
}

// is reports whether an operand is a boolean.
func (o operand) is(b bool) bool {
	return o.data.Kind == api.Bool && (o.data.Num == 1) == b
}

// some reports whether some operands pass a test.
func some(l []operand, test func(operand) bool) bool {
	return slices.ContainsFunc(l, test)
}

// interpolated returns the Val of an interpolated string with some parts.
func interpolated(l []operand) api.Val {
	var b strings.Builder
	for _, o := range l {
		s, e := operator.Plain(o.data)
		if o.bottom || !o.unknown && e != api.OK {
			return value.Bottom()
		}
		b.WriteString(s)
	}
	if some(l, func(o operand) bool { return o.unknown }) {
		return kind("string")
	}
	return text(b.String())
}

// bounded returns the Val of the scalars that an operator and its operand permit.
func bounded(op string, o operand) api.Val {
	switch {
	case o.bottom:
		return value.Bottom()
	case o.unknown:
		return value.Top()
	case op == "=~" || op == "!~":
		return matched(op == "=~", o.data)
	}
	s, _ := scalar.Bound(op, o.data)
	return value.Scalar(s)
}

// matched returns the Val of the strings that match a regular expression, or of those that do not.
func matched(match bool, d api.Data) api.Val {
	if d.Kind != api.String {
		return value.Bottom()
	}
	set, ok := matching(d.Str)
	switch {
	case !ok:
		return value.Bottom()
	case !match:
		set = lang.Not(set)
	}
	return value.Scalar(api.Scalars{Strs: set})
}

// found returns what is found, or Top if that can still change.
func found(v api.Val, e api.Errno) api.Val {
	switch e {
	case api.OK:
		return v
	case api.ErrOpen, api.ErrAbsent:
		return value.Top()
	}
	return value.Bottom()
}

// indexed returns the Val of an item or of a field.
func indexed(v api.Val, index operand) api.Val {
	d := index.data
	switch {
	case index.unknown:
		return value.Top()
	case d.Kind == api.Number && d.Num%api.Unit == 0:
		return found(lookup.Index(v, int(d.Num/api.Unit)))
	case d.Kind == api.String:
		return found(lookup.Select(v, d.Str))
	}
	return value.Bottom()
}

// operated returns the Val of an operator's result for one or two operands.
func operated(op string, l []operand) (api.Val, api.Errno) {
	switch {
	case some(l, func(o operand) bool { return o.bottom }):
		return value.Bottom(), api.OK
	case some(l, func(o operand) bool { return o.unknown }):
		return unknown(op), api.OK
	}
	var d api.Data
	var e api.Errno
	if len(l) == 1 {
		d, e = operator.Unary(op, l[0].data)
	} else {
		d, e = operator.Binary(op, l[0].data, l[1].data)
	}
	if e != api.OK {
		return value.Bottom(), api.OK
	}
	return concrete.Of(d)
}

// unknown returns the Val of all results that an operator can have.
func unknown(op string) api.Val {
	switch op {
	case "+":
		return value.Top()
	case "-", "*", "/", "%":
		return kind("number")
	}
	return kind("bool")
}
