package automaton

import (
	"cmp"
	"slices"
	"strconv"
	"strings"

	"configlang/api"
	"configlang/byteset"
	"configlang/regex"
)

// maxSets is the greatest number of sets of positions to which strings may lead.
const maxSets = 500

// Of returns the canonical automaton of the strings that r matches.
func Of(r api.Regex) (api.Lang, api.Errno) {
	if e := regex.Check(r); e != api.OK {
		return api.Lang{}, e
	}
	t, ok := newReader(r).table()
	if !ok {
		return api.Lang{}, api.ErrLimit
	}
	l := t.minimal()
	if len(l.States) > api.MaxStates {
		return api.Lang{}, api.ErrLimit
	}
	return l, api.OK
}

// wordBits is the number of positions in one element of a set of positions.
const wordBits = 64

// positions is a set of positions: position p is bit p%64 of element p/64.
type positions []uint64

// part is a part of an expression. What is read up to a set of positions can end at the end of a part, or not.
type part struct {
	kind     int
	subs     []*part
	nullable bool
	ended    bool
	position int // of a part of the kind OneOf
}

// class is bytes that can be read at the same positions.
type class struct {
	ranges    [][2]byte
	positions positions
}

// reader reads an expression.
type reader struct {
	root    *part
	sets    []api.Bytes // of each position
	classes []class
}

// newReader returns the reader of a valid expression.
func newReader(r api.Regex) *reader {
	x := &reader{}
	x.root = x.newPart(r)
	for _, set := range byteset.Partition(x.sets) {
		c := class{ranges: byteset.Ranges(set), positions: x.none()}
		b, _ := byteset.Least(set)
		for p, s := range x.sets {
			if byteset.Has(s, b) {
				c.positions.add(p)
			}
		}
		x.classes = append(x.classes, c)
	}
	return x
}

// newPart returns a part, and gives its positions their numbers.
func (x *reader) newPart(r api.Regex) *part {
	p := &part{kind: r.Kind, nullable: r.Kind == api.Empty || r.Kind == api.Star || r.Kind == api.Cat}
	if r.Kind == api.OneOf {
		p.position = len(x.sets)
		x.sets = append(x.sets, r.Set)
	}
	for _, sub := range r.Subs {
		q := x.newPart(sub)
		p.subs = append(p.subs, q)
		switch r.Kind {
		case api.Alt:
			p.nullable = p.nullable || q.nullable
		case api.Cat:
			p.nullable = p.nullable && q.nullable
		}
	}
	return p
}

// table returns a table that accepts the strings of the expression, with a state for each set of positions; false if there are too many.
func (x *reader) table() (table, bool) {
	found := map[string]int{} // the state of each set, by its text
	sets := []positions{x.none()}
	var t table
	for n := 0; n < len(sets); n++ {
		next, accept := x.follow(n == 0, sets[n])
		state := api.State{Accept: accept}
		for _, c := range x.classes {
			set := next.and(c.positions)
			if set.empty() {
				continue
			}
			text := set.text()
			to, ok := found[text]
			if !ok {
				to = len(sets)
				found[text] = to
				sets = append(sets, set)
			}
			// State 0 is that of the empty string, which leads to no set.
			if to > maxSets {
				return nil, false
			}
			for _, r := range c.ranges {
				state.Edges = append(state.Edges, api.Edge{Lo: r[0], Hi: r[1], To: to})
			}
		}
		slices.SortFunc(state.Edges, func(a, b api.Edge) int { return cmp.Compare(a.Lo, b.Lo) })
		t = append(t, state)
	}
	return t, true
}

// follow returns the positions at which the next byte can be read, at the beginning or behind a set of positions, and whether the expression can end there.
func (x *reader) follow(begun bool, set positions) (positions, bool) {
	accept := x.root.end(set) || begun && x.root.nullable
	next := x.none()
	x.root.begin(begun, next.add)
	return next, accept
}

// none returns the empty set of positions.
func (x *reader) none() positions {
	return make(positions, len(x.sets)/wordBits+1)
}

// end finds out whether what ends at some positions can end at the end of a part, and of each part of it.
func (p *part) end(set positions) bool {
	p.ended = p.kind == api.OneOf && set.has(p.position)
	for _, sub := range p.subs {
		// In a concatenation, what ended before a part must skip it.
		p.ended = p.ended && (p.kind != api.Cat || sub.nullable)
		if sub.end(set) {
			p.ended = true
		}
	}
	return p.ended
}

// begin visits the positions of a part at which the next byte can be read; begun tells whether it can be the first one of the part.
func (p *part) begin(begun bool, visit func(int)) {
	switch p.kind {
	case api.OneOf:
		if begun {
			visit(p.position)
		}
	case api.Star:
		p.subs[0].begin(begun || p.ended, visit)
	case api.Alt:
		for _, sub := range p.subs {
			sub.begin(begun, visit)
		}
	case api.Cat:
		for _, sub := range p.subs {
			sub.begin(begun, visit)
			begun = sub.ended || begun && sub.nullable
		}
	}
}

// add adds a position.
func (s positions) add(p int) {
	s[p/wordBits] |= 1 << (p % wordBits)
}

// has reports whether a position is in the set.
func (s positions) has(p int) bool {
	return s[p/wordBits]>>(p%wordBits)&1 == 1
}

// and returns the intersection of two sets of the same expression.
func (s positions) and(t positions) positions {
	both := slices.Clone(s)
	for i, w := range t {
		both[i] &= w
	}
	return both
}

// empty reports whether no position is in the set.
func (s positions) empty() bool {
	return !slices.ContainsFunc(s, func(w uint64) bool { return w != 0 })
}

// text returns the text by which a set is found.
func (s positions) text() string {
	var b strings.Builder
	for _, w := range s {
		b.WriteString(strconv.FormatUint(w, 16))
		b.WriteByte(' ')
	}
	return b.String()
}
