package scopes

import "configlang/api"

// use is a use and what it refers to.
type use struct {
	Use
	definition *definition
}

// analysis is the uses and definitions of a package, in the order of its trees.
type analysis struct {
	file        int
	uses        []use
	definitions []*definition
	root        *table
	twice       bool
}

// analyze finds the uses and definitions of a package.
func analyze(p api.Package) (*analysis, api.Errno) {
	if e := check(p); e != api.OK {
		return nil, e
	}
	a := &analysis{root: newTable()}
	for i, f := range p.Files {
		a.declare(a.root, f.Decls, i)
	}
	for i, f := range p.Files {
		a.file = i
		a.decls(f.Decls, open(a.imports(f), a.root))
	}
	if a.twice {
		return nil, api.ErrTwice
	}
	return a, api.OK
}

// declare adds declarations to the table of a scope.
func (a *analysis) declare(t *table, l []api.Decl, file int) {
	if !t.declare(l, file) {
		a.twice = true
	}
}

// imports returns the names of the imports of a file.
func (a *analysis) imports(f api.File) imports {
	names := map[string]*definition{}
	for _, i := range f.Imports {
		d := &definition{Definition: Definition{File: a.file, Pos: i.Pos, Name: i.Name, Kind: Package}}
		a.twice = a.twice || names[i.Name] != nil
		names[i.Name] = d
		a.definitions = append(a.definitions, d)
	}
	return imports{names: names}
}

// decls visits declarations.
func (a *analysis) decls(l []api.Decl, at space) {
	for _, d := range l {
		switch d.Kind {
		case api.DcLet:
			a.let(d, at)
		case api.DcFor:
			a.exprs(d.Subs, at)
			a.decls(d.Body, loop{space: at, names: d.Names})
		default:
			a.exprs(d.Subs, at)
			a.decls(d.Body, at)
		}
	}
}

// let visits a let.
func (a *analysis) let(d api.Decl, at space) {
	let := at.find(d.Label).definition
	let.from = len(a.uses)
	a.exprs(d.Subs, at)
	let.to = len(a.uses)
	a.definitions = append(a.definitions, let)
}

// exprs visits expressions.
func (a *analysis) exprs(l []api.Expr, at space) {
	for _, e := range l {
		a.expr(e, at)
	}
}

// expr visits an expression.
func (a *analysis) expr(e api.Expr, at space) {
	switch e.Kind {
	case api.ExRef:
		a.reference(e, at)
	case api.ExStruct:
		t := newTable()
		a.declare(t, e.Decls, a.file)
		a.decls(e.Decls, open(at, t))
	case api.ExEach:
		a.exprs(e.Subs[:1], at)
		a.exprs(e.Subs[1:], loop{space: at, names: e.Names})
	default:
		a.exprs(e.Subs, at)
		a.decls(e.Decls, at)
	}
}

// reference adds a use.
func (a *analysis) reference(e api.Expr, at space) {
	t := at.find(e.Text)
	if t.definition != nil {
		t.definition.used = true
	}
	a.uses = append(a.uses, use{
		Use:        Use{File: a.file, Pos: e.Pos, Name: e.Text, Kind: t.kind, Depth: t.depth},
		definition: t.definition,
	})
}

// measure finds the levels of all lets when they are resolved; it reports whether none refers to itself in turn.
func (a *analysis) measure() bool {
	var ready []*definition
	for _, d := range a.definitions {
		for _, u := range a.uses[d.from:d.to] {
			if u.Kind == Let {
				u.definition.users = append(u.definition.users, d)
				d.waiting++
			}
		}
		if d.waiting == 0 {
			ready = append(ready, d)
		}
	}
	for i := 0; i < len(ready); i++ {
		d := ready[i]
		if d.Kind == Let {
			c := &cursor{uses: a.uses, at: d.from}
			d.height = c.height(d.expr)
		}
		for _, user := range d.users {
			user.waiting--
			if user.waiting == 0 {
				ready = append(ready, user)
			}
		}
	}
	return len(ready) == len(a.definitions)
}
