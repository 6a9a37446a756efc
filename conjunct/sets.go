package conjunct

import (
	"cmp"
	"slices"
	"strconv"
	"strings"

	"configlang/api"
	"configlang/regex"
)

// sets are the conjuncts of all places, as far as they are found.
type sets struct {
	packages     []*linker
	roots        []*place
	nodes        []*place                     // the places that have conjuncts
	deep         bool                         // a place with too many labels would have one
	expressions  map[string]*expression       // by their texts and files
	environments map[environment]*environment // by what they consist of
}

// newSets returns the sets of resolved packages without any conjunct.
func newSets(packages []*linker) *sets {
	s := &sets{packages: packages, expressions: map[string]*expression{}, environments: map[environment]*environment{}}
	for i := range packages {
		s.roots = append(s.roots, newPlace(i))
	}
	return s
}

// grow adds conjuncts until nothing changes, or there are too many nodes.
func (s *sets) grow() {
	a := &agenda{}
	add := func(q *place, c conjunct) {
		switch {
		case len(q.Labels) > api.MaxDepth:
			s.deep = true
			return
		case q.has[c]:
			return
		case !q.isNode():
			s.nodes = append(s.nodes, q)
		}
		q.has[c] = true
		q.conjuncts = append(q.conjuncts, c)
		a.put(q.times[c.expr], found{at: q, conjunct: c})
		q.times[c.expr]++
	}
	for i, k := range s.packages {
		for file, f := range k.files {
			root := s.expression(api.Expr{Kind: api.ExStruct, Decls: f.Decls}, i, file)
			add(s.roots[i], conjunct{expr: root})
		}
	}
growing:
	for {
		next, ok := a.take()
		switch {
		case !ok, len(s.nodes) > api.MaxNodes:
			break growing
		}
		s.follow(next.at, next.conjunct, add)
	}
}

// follow adds what a new conjunct of a place gives to places.
func (s *sets) follow(q *place, c conjunct, add func(*place, conjunct)) {
	for _, user := range q.users {
		add(user, c)
	}
	x := c.expr
	switch {
	case x.Kind == api.ExStruct:
		s.open(q, c, add)
	case x.Kind == api.ExAnd:
		for _, g := range s.given(x) {
			add(q, conjunct{expr: g.expr, env: c.env})
		}
	case isLet(x.Expr):
		for _, g := range s.given(x) {
			add(q, conjunct{expr: g.expr, env: c.env.first(int(x.Num) + 1)})
		}
	default:
		if t := s.target(c); t != nil && !q.uses[t] {
			q.uses[t] = true
			t.users = append(t.users, q)
			for _, d := range t.conjuncts {
				add(q, d)
			}
		}
	}
}

// open adds what a new struct of a place gives to it and to its children, and what the other structs give to the labels that become active by it.
func (s *sets) open(q *place, c conjunct, add func(*place, conjunct)) {
	give := func(label string, c conjunct) {
		for _, g := range s.given(c.expr) {
			if g.covers(label) {
				add(q.child(label), conjunct{expr: g.expr, env: s.within(c.env, q)})
			}
		}
	}
	for _, g := range s.given(c.expr) {
		if g.isWhole() {
			add(q, conjunct{expr: g.expr, env: s.within(c.env, q)})
		}
		if q.declare(g) {
			for _, other := range q.structs {
				give(g.label, other)
			}
		}
	}
	q.structs = append(q.structs, c)
	for _, label := range q.active {
		give(label, c)
	}
}

// given returns what a struct, a conjunction or a let gives.
func (s *sets) given(x *expression) []given {
	if x.opened {
		return x.given
	}
	x.opened = true
	file := x.file
	if isLet(x.Expr) {
		file = s.packages[x.pack].letFile(x.Expr, file)
	}
	for _, sub := range x.Subs {
		x.given = append(x.given, given{expr: s.expression(sub, x.pack, file)})
	}
	for _, d := range x.Decls {
		g := given{kind: d.Kind, presence: d.Presence, label: d.Label}
		switch d.Kind {
		case api.DcLet, api.DcOpen:
			continue
		case api.DcIf, api.DcFor, api.DcDynamic:
			alone := api.Expr{Kind: api.ExValue, Decls: []api.Decl{d}, Pos: d.Pos}
			g.expr = s.expression(alone, x.pack, file)
		case api.DcPattern:
			g.pattern, _ = regex.Parse(d.Label)
			fallthrough
		default:
			g.expr = s.expression(d.Subs[0], x.pack, file)
		}
		x.given = append(x.given, g)
	}
	return x.given
}

// target returns the place to which a reference refers; nil if an expression is no reference to a place.
func (s *sets) target(c conjunct) *place {
	var labels []string
	e := c.expr.Expr
	for e.Kind == api.ExSelect {
		labels = append(labels, e.Text)
		e = e.Subs[0]
	}
	var at *place
	switch {
	case e.Kind != api.ExRef:
	case e.Names[0] == "package":
		at = s.roots[e.Num-firstPackage]
	case e.Names[0] == "field":
		at = c.env.first(int(e.Num) + 1).at.child(e.Text)
	}
	if at == nil {
		return nil
	}
	slices.Reverse(labels)
	for _, label := range labels {
		at = at.child(label)
	}
	return at
}

// expression returns an expression of a file; equal ones are only once in memory.
func (s *sets) expression(e api.Expr, pack, file int) *expression {
	key := strconv.Itoa(pack) + " " + strconv.Itoa(file) + " " + text(e)
	x := s.expressions[key]
	if x == nil {
		x = &expression{Expr: e, pack: pack, file: file, key: key}
		s.expressions[key] = x
	}
	return x
}

// within returns an environment with one place more; equal ones are only once in memory.
func (s *sets) within(outer *environment, at *place) *environment {
	e := environment{outer: outer, at: at, size: 1}
	if outer != nil {
		e.size += outer.size
	}
	if s.environments[e] == nil {
		s.environments[e] = &e
	}
	return s.environments[e]
}

// node returns the node of a place that has conjuncts.
func (s *sets) node(q *place) api.Node {
	n := api.Node{Place: clonePlace(q.Place), Presence: s.presence(q)}
	var l []keyed
	for _, c := range q.conjuncts {
		x := c.expr
		t := s.target(c)
		if t != nil && t.isNode() {
			if strings.HasPrefix(x.Text, "#") {
				n.Shapes = append(n.Shapes, clonePlace(t.Place))
			}
		} else if x.Kind != api.ExAnd && !isLet(x.Expr) {
			l = append(l, keyed{Conjunct: api.Conjunct{Expr: cloneExpr(x.Expr), Env: c.env.places(), Package: x.pack, File: x.file}, key: x.key})
		}
	}
	slices.SortFunc(l, compare)
	for _, k := range l {
		n.Conjuncts = append(n.Conjuncts, k.Conjunct)
	}
	slices.SortFunc(n.Shapes, ComparePlace)
	n.Shapes = slices.CompactFunc(n.Shapes, samePlace)
	return n
}

// presence returns the least presence of the fields that declare a place.
func (s *sets) presence(q *place) int {
	if len(q.Labels) == 0 {
		return api.Present
	}
	parent := s.roots[q.Package]
	last := len(q.Labels) - 1
	for _, label := range q.Labels[:last] {
		parent = parent.child(label)
	}
	return parent.presence[q.Labels[last]]
}

// keyed is a conjunct with a text that tells its expression from others.
type keyed struct {
	api.Conjunct
	key string
}

// compare compares conjuncts by file, position and environment, and those that agree in all of these by their texts.
func compare(a, b keyed) int {
	return cmp.Or(
		cmp.Compare(a.Package, b.Package),
		cmp.Compare(a.File, b.File),
		cmp.Compare(a.Expr.Pos, b.Expr.Pos),
		slices.CompareFunc(a.Env, b.Env, ComparePlace),
		strings.Compare(a.key, b.key),
	)
}
