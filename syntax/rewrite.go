package syntax

import (
	"slices"

	"configlang/api"
)

// Strip returns a file with all Pos set to 0.
func Strip(f api.File) api.File {
	f = stripper().file(f)
	for i := range f.Imports {
		f.Imports[i].Pos = 0
	}
	return f
}

// StripExpr returns an expression with all Pos set to 0.
func StripExpr(e api.Expr) api.Expr {
	return stripper().expr(e)
}

// Plain returns a file without comments.
func Plain(f api.File) api.File {
	f = newCopier(
		func(e *api.Expr) { e.Tail = nil },
		func(d *api.Decl) { d.Lead, d.Trail, d.Tail = nil, "", nil },
	).file(f)
	f.Tail = nil
	return f
}

// copier copies trees, and changes each part of the copy.
type copier struct {
	expr func(e api.Expr) api.Expr
	decl func(d api.Decl) api.Decl
}

// newCopier returns a copier with its two changes.
func newCopier(changeExpr func(*api.Expr), changeDecl func(*api.Decl)) copier {
	var c copier
	c.expr = func(e api.Expr) api.Expr {
		e.Subs = each(e.Subs, c.expr)
		e.Decls = each(e.Decls, c.decl)
		e.Tail = slices.Clone(e.Tail)
		changeExpr(&e)
		return e
	}
	c.decl = func(d api.Decl) api.Decl {
		d.Subs = each(d.Subs, c.expr)
		d.Body = each(d.Body, c.decl)
		d.Tail = slices.Clone(d.Tail)
		d.Lead = slices.Clone(d.Lead)
		changeDecl(&d)
		return d
	}
	return c
}

// stripper returns the copier that sets Pos to 0.
func stripper() copier {
	return newCopier(
		func(e *api.Expr) { e.Pos = 0 },
		func(d *api.Decl) { d.Pos = 0 },
	)
}

// file copies a file.
func (c copier) file(f api.File) api.File {
	f.Imports = slices.Clone(f.Imports)
	f.Decls = each(f.Decls, c.decl)
	f.Tail = slices.Clone(f.Tail)
	return f
}

// each returns the results of f for the parts of a list.
func each[T any](l []T, f func(T) T) []T {
	var results []T
	for _, x := range l {
		results = append(results, f(x))
	}
	return results
}
