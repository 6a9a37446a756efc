package express

import (
	"iter"

	"configlang/api"
	"configlang/parts"
	"configlang/value"
)

// element is a field with its label, or an item with its index.
type element struct {
	name, val api.Val
}

// source is what a loop goes through, unless that is open, or wrong.
type source struct {
	elements    []element
	open, wrong bool
}

// sourceOf returns a valid Val as a source.
func sourceOf(v api.Val) source {
	var s source
	r := parts.Resolved(v)
	switch {
	case r.Any, parts.Alternatives(r) > 1, len(r.Lists) == 1 && len(r.Lists[0].Rest) > 0:
		s.open = true
	case len(r.Structs) == 1:
		for _, f := range r.Structs[0].Fields {
			s.elements = append(s.elements, element{text(f.Label), f.Val})
		}
	case len(r.Lists) == 1:
		for i, item := range r.Lists[0].Items {
			s.elements = append(s.elements, element{number(int64(i) * api.Unit), item})
		}
	default:
		s.wrong = true
	}
	return s
}

// visit yields, for each element, the bindings within a loop with two names. They hold until the next element is visited.
func (s source) visit(names [2]string, env []api.Binding) iter.Seq[[]api.Binding] {
	return func(yield func([]api.Binding) bool) {
		inner := inside(names, env)
		for _, e := range s.elements {
			inner[len(env)].Val, inner[len(env)+1].Val = e.name, e.val
			if !yield(inner) {
				return
			}
		}
	}
}

// repeated returns the value of a DcFor.
func (x *evaluation) repeated(d api.Decl, env []api.Binding) api.Val {
	s := sourceOf(x.expr(d.Subs[0], env))
	if s.wrong {
		return value.Bottom()
	}
	var vals []api.Val
	for inner := range s.visit(d.Names, env) {
		vals = append(vals, x.fields(d.Body, inner))
	}
	return all(vals)
}

// list returns the value of a list.
func (x *evaluation) list(e api.Expr, env []api.Binding) api.Val {
	var c api.ListCase
	open, wrong := false, false
	for i, sub := range e.Subs {
		switch {
		case sub.Kind == api.ExEach:
			s, items := x.each(sub, env)
			open, wrong = open || s.open, wrong || s.wrong
			c.Items = append(c.Items, items...)
		case e.Num == 1 && i == len(e.Subs)-1:
			c.Rest = []api.Val{x.expr(sub, env)}
		default:
			c.Items = append(c.Items, x.expr(sub, env))
		}
	}
	switch {
	case wrong:
		return value.Bottom()
	case open:
		return allLists()
	}
	return x.result(made(api.Value{Lists: []api.ListCase{c}}))
}

// each returns the items that an ExEach contributes to a list, and its source, which is also open or wrong if a condition is.
func (x *evaluation) each(e api.Expr, env []api.Binding) (source, []api.Val) {
	s := sourceOf(x.expr(e.Subs[0], env))
	last := len(e.Subs) - 1
	var items []api.Val
elements:
	for inner := range s.visit(e.Names, env) {
		for _, condition := range e.Subs[1:last] { // one, or none
			switch c := operandOf(x.expr(condition, inner)); {
			case c.is(true):
			case c.is(false):
				continue elements
			case c.unknown:
				s.open = true
				continue elements
			default:
				s.wrong = true
				continue elements
			}
		}
		items = append(items, x.expr(e.Subs[last], inner))
	}
	return s, items
}
