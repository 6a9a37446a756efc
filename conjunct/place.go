package conjunct

import (
	"slices"

	"configlang/api"
	"configlang/regex"
)

// place is a place with its conjuncts.
type place struct {
	api.Place
	children  map[string]*place
	conjuncts []conjunct
	has       map[conjunct]bool
	times     map[*expression]int // in how many environments the place has an expression
	users     []*place            // the places with references to this one
	uses      map[*place]bool
	structs   []conjunct
	active    []string       // the active labels
	presence  map[string]int // the least one of the fields with each active label
}

// conjunct is an expression in the places that enclose it. Conjuncts that are the same have the same pointers.
type conjunct struct {
	expr *expression
	env  *environment
}

// expression is an expression of a file.
type expression struct {
	api.Expr
	pack, file int
	key        string
	opened     bool
	given      []given // what it gives, if it is opened
}

// given is an expression that a declaration of a struct, or a part of another expression, gives to the place where it stands, or to its children.
type given struct {
	kind, presence int // of the declaration
	label          string
	pattern        api.Regex
	expr           *expression
}

// environment is the innermost place that encloses an expression, within the environment of the others; nil if there is none.
type environment struct {
	outer *environment
	at    *place
	size  int
}

// newPlace returns a place without conjuncts.
func newPlace(pack int, labels ...string) *place {
	return &place{
		Place:    api.Place{Package: pack, Labels: labels},
		children: map[string]*place{},
		has:      map[conjunct]bool{},
		uses:     map[*place]bool{},
		times:    map[*expression]int{},
		presence: map[string]int{},
	}
}

// child returns the place with one label more.
func (q *place) child(label string) *place {
	c := q.children[label]
	if c == nil {
		c = newPlace(q.Package, slices.Concat(q.Labels, []string{label})...)
		q.children[label] = c
	}
	return c
}

// declare notes what a declaration of a struct of the place says of a label; it reports whether it makes the label active.
func (q *place) declare(g given) bool {
	if g.kind != api.DcField || g.presence == api.Optional {
		return false
	}
	old, known := q.presence[g.label]
	if !known || g.presence < old {
		q.presence[g.label] = g.presence
	}
	if !known {
		q.active = append(q.active, g.label)
	}
	return !known
}

// isNode reports whether the place has conjuncts.
func (q *place) isNode() bool {
	return len(q.conjuncts) > 0
}

// isWhole reports whether a declaration gives its expression to the place of the struct itself.
func (g given) isWhole() bool {
	return g.kind != api.DcField && g.kind != api.DcPattern
}

// covers reports whether a declaration gives its expression to the child with an active label.
func (g given) covers(label string) bool {
	switch g.kind {
	case api.DcField:
		return g.label == label
	case api.DcPattern:
		return regex.Match(g.pattern, label)
	}
	return false
}

// first returns the environment of the first n places.
func (e *environment) first(n int) *environment {
	for e != nil && e.size > n {
		e = e.outer
	}
	return e
}

// places returns the places from the outermost to the innermost one.
func (e *environment) places() []api.Place {
	var l []api.Place
	for ; e != nil; e = e.outer {
		l = append(l, clonePlace(e.at.Place))
	}
	slices.Reverse(l)
	return l
}

// clonePlace returns a copy of a place.
func clonePlace(q api.Place) api.Place {
	q.Labels = slices.Clone(q.Labels)
	return q
}
