package scopes

import (
	"maps"
	"slices"

	"configlang/api"
	"configlang/quote"
)

// target is what a name refers to.
type target struct {
	kind, depth int
	definition  *definition // of a let or an import
}

// space is what can be seen from a place of a file.
type space interface {
	find(name string) target
	level() int // the depth of the innermost scope
}

// definition is a let or an import.
type definition struct {
	Definition
	used     bool
	expr     api.Expr      // of a let
	from, to int           // the uses in expr
	height   int           // the levels of expr when it is resolved
	users    []*definition // the lets in whose expr it is used, once for each use
	waiting  int           // the uses of lets in expr whose levels are not known
}

// imports is what a file sees outside of its package scope.
type imports struct {
	names map[string]*definition
}

// find returns what a name refers to.
func (i imports) find(name string) target {
	if d := i.names[name]; d != nil {
		return target{kind: Package, definition: d}
	}
	return target{kind: Unknown}
}

// level returns that there is no scope.
func (i imports) level() int {
	return -1
}

// table is the names that a scope declares.
type table struct {
	fields map[string]bool
	lets   map[string]*definition
}

// newTable returns the table of a scope without declarations.
func newTable() *table {
	return &table{fields: map[string]bool{}, lets: map[string]*definition{}}
}

// declare adds the declarations that stand directly in a scope; it reports whether no name of a let occurs twice.
func (t *table) declare(l []api.Decl, file int) bool {
	once := true
	for _, d := range l {
		switch d.Kind {
		case api.DcField:
			if quote.Ident(d.Label) {
				t.fields[d.Label] = true
			}
		case api.DcLet:
			once = once && t.lets[d.Label] == nil
			t.lets[d.Label] = &definition{
				Definition: Definition{File: file, Pos: d.Pos, Name: d.Label, Kind: Let},
				expr:       d.Subs[0],
			}
		}
	}
	for name := range t.lets {
		once = once && !t.fields[name]
	}
	return once
}

// names returns the names that the scope declares in ascending order.
func (t *table) names() []string {
	l := slices.Collect(maps.Keys(t.fields))
	l = slices.AppendSeq(l, maps.Keys(t.lets))
	slices.Sort(l)
	return l
}

// own returns what a name refers to in the scope itself.
func (t *table) own(name string) (target, bool) {
	if d := t.lets[name]; d != nil {
		return target{kind: Let, definition: d}, true
	}
	return target{kind: Field}, t.fields[name]
}

// scope is a scope within the one that encloses it.
type scope struct {
	space
	*table
	depth int
}

// open returns the scope with a table directly within a space.
func open(within space, t *table) scope {
	return scope{space: within, table: t, depth: within.level() + 1}
}

// find returns what a name refers to.
func (s scope) find(name string) target {
	t, ok := s.own(name)
	if !ok {
		return s.space.find(name)
	}
	t.depth = s.depth
	return t
}

// level returns the depth of the scope.
func (s scope) level() int {
	return s.depth
}

// loop is a space in which two names are bound.
type loop struct {
	space
	names [2]string
}

// find returns what a name refers to.
func (l loop) find(name string) target {
	if name == l.names[0] || name == l.names[1] {
		return target{kind: Loop}
	}
	return l.space.find(name)
}
