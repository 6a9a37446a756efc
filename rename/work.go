package rename

import (
	"cmp"
	"slices"

	"configlang/api"
	"configlang/scopes"
)

// work is a package in which something is renamed.
type work struct {
	uses []scopes.Use // as they shall be
	pack api.Package  // the copy
	refs []reference  // of the copy, in the order of the uses
}

// reference is an ExRef of a file.
type reference struct {
	file int
	expr *api.Expr
}

// begin returns a copy of a package in which no reference is resolved.
func begin(p api.Package) (*work, api.Errno) {
	uses, e := scopes.Uses(p)
	if e != api.OK {
		return nil, e
	}
	w := &work{uses: uses}
	w.take(p)
	if slices.ContainsFunc(w.refs, func(r reference) bool { return r.expr.Names[0] != "" }) {
		return nil, api.ErrKind
	}
	return w, api.OK
}

// take copies a package.
func (w *work) take(p api.Package) {
	file := 0
	var exprs func(l []api.Expr) []api.Expr
	var decls func(l []api.Decl) []api.Decl
	exprs = func(l []api.Expr) []api.Expr {
		l = slices.Clone(l)
		for i := range l {
			e := &l[i]
			if e.Kind == api.ExRef {
				w.refs = append(w.refs, reference{file: file, expr: e})
			}
			e.Subs, e.Decls, e.Tail = exprs(e.Subs), decls(e.Decls), slices.Clone(e.Tail)
		}
		return l
	}
	decls = func(l []api.Decl) []api.Decl {
		l = slices.Clone(l)
		for i := range l {
			d := &l[i]
			d.Subs, d.Body = exprs(d.Subs), decls(d.Body)
			d.Lead, d.Tail = slices.Clone(d.Lead), slices.Clone(d.Tail)
		}
		return l
	}
	w.pack = api.Package{Path: p.Path, Files: slices.Clone(p.Files)}
	for i := range w.pack.Files {
		f := &w.pack.Files[i]
		file = i
		f.Imports, f.Decls, f.Tail = slices.Clone(f.Imports), decls(f.Decls), slices.Clone(f.Tail)
	}
	slices.SortStableFunc(w.refs, func(a, b reference) int {
		return cmp.Or(cmp.Compare(a.file, b.file), cmp.Compare(a.expr.Pos, b.expr.Pos))
	})
}

// relabel gives the declarations of a kind with a label that stand directly in the files another one; it reports whether there are any.
func (w *work) relabel(kind int, from, to string) bool {
	found := false
	for _, f := range w.pack.Files {
		for i, d := range f.Decls {
			if d.Kind == kind && d.Label == from {
				f.Decls[i].Label = to
				found = true
			}
		}
	}
	return found
}

// replace gives some uses another name, and returns the package if all others are resolved as before.
func (w *work) replace(to string, chosen func(scopes.Use) bool) (api.Package, api.Errno) {
	for i, u := range w.uses {
		if chosen(u) {
			w.refs[i].expr.Text = to
			w.uses[i].Name = to
		}
	}
	uses, e := scopes.Uses(w.pack)
	if e != api.OK || !slices.Equal(uses, w.uses) {
		return api.Package{}, api.ErrShadow
	}
	return w.pack, api.OK
}
