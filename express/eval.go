package express

import (
	"configlang/api"
	"configlang/builtin"
	"configlang/disjoin"
	"configlang/lookup"
	"configlang/parts"
	"configlang/value"
)

// evaluation computes the values of the parts of a valid tree, in which all references are bound. It ends when a part is nested too deeply: what it returns then does not matter.
type evaluation struct {
	deep bool
}

// result returns a result, or Bottom if there is an error, and notes if it is nested too deeply.
func (x *evaluation) result(v api.Val, e api.Errno) api.Val {
	x.deep = x.deep || e == api.ErrDepth
	if e != api.OK {
		return value.Bottom()
	}
	return v
}

// expr returns the value of an expression.
func (x *evaluation) expr(e api.Expr, env []api.Binding) api.Val {
	if x.deep {
		return value.Bottom()
	}
	sub := func(i int) api.Val { return x.expr(e.Subs[i], env) }
	subs := func() []api.Val { return parts.Each(e.Subs, func(s api.Expr) api.Val { return x.expr(s, env) }) }
	switch e.Kind {
	case api.ExNull:
		return exactly(api.Data{Kind: api.Null})
	case api.ExBool:
		return exactly(api.Data{Kind: api.Bool, Num: e.Num})
	case api.ExNumber:
		return number(e.Num)
	case api.ExString:
		return text(e.Text)
	case api.ExInterp:
		return interpolated(parts.Each(subs(), operandOf))
	case api.ExTop:
		return value.Top()
	case api.ExType:
		return kind(e.Text)
	case api.ExBound:
		return bounded(e.Text, operandOf(sub(0)))
	case api.ExRef:
		if e.Names[0] != "let" {
			v, _ := find(e, env)
			return v
		}
		fallthrough
	case api.ExMark:
		return sub(0)
	case api.ExSelect:
		return found(lookup.Select(sub(0), e.Text))
	case api.ExIndex:
		return indexed(sub(0), operandOf(sub(1)))
	case api.ExStruct, api.ExValue:
		return x.fields(e.Decls, env)
	case api.ExList:
		return x.list(e, env)
	case api.ExAnd:
		return all(subs())
	case api.ExOr:
		return x.result(disjoin.Or(subs(), parts.Each(e.Subs, func(s api.Expr) bool { return s.Kind == api.ExMark })))
	case api.ExUnary, api.ExBinary:
		return x.result(operated(e.Text, parts.Each(subs(), operandOf)))
	case api.ExCall:
		return found(builtin.Call(e.Text, subs()))
	}
	return value.Bottom()
}

// fields returns the value of a struct with some declarations.
func (x *evaluation) fields(l []api.Decl, env []api.Binding) api.Val {
	vals := []api.Val{allStructs()}
	for _, d := range l {
		vals = append(vals, x.decl(d, env))
	}
	return all(vals)
}

// decl returns the value of a declaration.
func (x *evaluation) decl(d api.Decl, env []api.Binding) api.Val {
	sub := func(i int) api.Val { return x.expr(d.Subs[i], env) }
	switch d.Kind {
	case api.DcField:
		return x.result(single(d.Label, d.Presence, sub(0)))
	case api.DcPattern:
		return x.result(pattern(d.Label, sub(0)))
	case api.DcEmbed:
		return sub(0)
	case api.DcIf:
		return x.branch(operandOf(sub(0)), d.Body, env)
	case api.DcFor:
		return x.repeated(d, env)
	case api.DcDynamic:
		label, v := operandOf(sub(0)), sub(1)
		switch {
		case label.unknown:
			return value.Top()
		case label.data.Kind == api.String:
			return x.result(single(label.data.Str, api.Present, v))
		}
	case api.DcLet:
		sub(0) // which is evaluated, although it is not used here
		fallthrough
	case api.DcOpen:
		return value.Top()
	}
	return value.Bottom()
}

// branch returns the value of declarations that depend on a condition.
func (x *evaluation) branch(condition operand, body []api.Decl, env []api.Binding) api.Val {
	switch {
	case condition.is(true):
		return x.fields(body, env)
	case condition.is(false), condition.unknown:
		return value.Top()
	}
	return value.Bottom()
}
