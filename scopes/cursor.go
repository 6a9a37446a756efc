package scopes

import (
	"slices"

	"configlang/api"
)

// cursor walks trees whose uses are known, in the order of the analysis.
type cursor struct {
	uses []use
	at   int
}

// next returns the next use.
func (c *cursor) next() use {
	c.at++
	return c.uses[c.at-1]
}

// height returns the number of levels of an expression when it is resolved.
func (c *cursor) height(e api.Expr) int {
	if e.Kind == api.ExRef {
		if u := c.next(); u.Kind == Let {
			return 1 + u.definition.height
		}
		return 1
	}
	below := 0
	for _, sub := range e.Subs {
		below = max(below, c.height(sub))
	}
	for _, d := range e.Decls {
		below = max(below, c.declHeight(d))
	}
	return 1 + below
}

// declHeight returns the number of levels of a declaration when it is resolved.
func (c *cursor) declHeight(d api.Decl) int {
	below := 0
	for _, sub := range d.Subs {
		below = max(below, c.height(sub))
	}
	for _, b := range d.Body {
		below = max(below, c.declHeight(b))
	}
	return 1 + below
}

// decls returns resolved declarations.
func (c *cursor) decls(l []api.Decl) []api.Decl {
	var r []api.Decl
	for _, d := range l {
		d.Subs = c.exprs(d.Subs)
		d.Body = c.decls(d.Body)
		d.Tail = slices.Clone(d.Tail)
		d.Lead = slices.Clone(d.Lead)
		r = append(r, d)
	}
	return r
}

// exprs returns resolved expressions.
func (c *cursor) exprs(l []api.Expr) []api.Expr {
	var r []api.Expr
	for _, e := range l {
		r = append(r, c.expr(e))
	}
	return r
}

// expr returns a resolved expression.
func (c *cursor) expr(e api.Expr) api.Expr {
	if e.Kind == api.ExRef {
		return c.reference(e)
	}
	e.Subs = c.exprs(e.Subs)
	e.Decls = c.decls(e.Decls)
	e.Tail = slices.Clone(e.Tail)
	return e
}

// reference returns a resolved reference.
func (c *cursor) reference(e api.Expr) api.Expr {
	u := c.next()
	r := api.Expr{Kind: api.ExRef, Text: e.Text, Pos: e.Pos, Names: [2]string{kindName(u.Kind)}}
	switch u.Kind {
	case Let:
		inner := &cursor{uses: c.uses, at: u.definition.from}
		r.Subs = []api.Expr{inner.expr(u.definition.expr)}
		r.Num = int64(u.Depth)
	case Field:
		r.Num = int64(u.Depth)
	}
	return r
}

// kindName returns the word by which a resolved reference tells its kind.
func kindName(kind int) string {
	switch kind {
	case Field:
		return "field"
	case Let:
		return "let"
	case Loop:
		return "loop"
	case Package:
		return "package"
	}
	return "unknown"
}
