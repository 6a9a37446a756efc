package subsume

import (
	"slices"
	"strings"

	"configlang/api"
	"configlang/parts"
)

// view is what a case that is to be violated says about a place: which data is permitted there, and whether there must be some.
type view struct {
	value api.Value
	must  bool
}

// place is a label of a struct, or an index of a list.
type place struct {
	in      []api.Value // what is there must be an instance of all of these
	lacking bool        // whether nothing may be there
	views   []view
}

// alike reports whether the same is said about two places.
func (p place) alike(q place) bool {
	return p.lacking == q.lacking && slices.EqualFunc(p.in, q.in, parts.Same) &&
		slices.EqualFunc(p.views, q.views, func(v, w view) bool { return v.must == w.must && parts.Same(v.value, w.value) })
}

// The marks of cases at a place.
const (
	undecided = '.'
	violated  = '-' // the case is violated there
	kept      = '+' // it is not violated there
)

// state is what has been decided about a place: which cases are violated there, and which are not.
type state struct {
	marks   string // a byte for each case
	region  region // what may be there then
	lacking bool   // whether nothing may be there
	chosen  bool   // whether choice has been found out
	choice  choice
}

// choice is the data at a place, or that nothing is there; ok is false if nothing is possible.
type choice struct {
	ok, lacking bool
	data        api.Data
}

// pending is a case for which no place has been found yet, and the places at which it can be violated.
type pending struct {
	which int
	at    []int
}

// key is a place with marks.
type key struct {
	place int
	marks string
}

// search looks for what is at some places, such that each of some cases is violated at one of them.
type search struct {
	places []place
	levels int // how many the data at a place may have
	known  map[key]*state
}

// newSearch returns a search.
func newSearch(places []place, levels int) *search {
	return &search{places: places, levels: levels, known: map[key]*state{}}
}

// run returns what is at the places, if all of n cases can be violated.
func (s *search) run(n int) ([]choice, bool) {
	var states []*state
	var all []int
	for i, p := range s.places {
		st := &state{marks: strings.Repeat(string(undecided), n), region: everything(), lacking: p.lacking}
		for _, v := range p.in {
			st.region = st.region.and(v)
		}
		if !s.possible(st) {
			return nil, false
		}
		states = append(states, st)
		all = append(all, i)
	}
	var left []pending
	for j := range n {
		left = append(left, pending{which: j, at: all})
	}
	states, ok := s.solved(states, left)
	if !ok {
		return nil, false
	}
	return parts.Each(states, s.choice), true
}

// choice returns what may be at a place: nothing, if that is possible.
func (s *search) choice(st *state) choice {
	switch {
	case st.chosen:
	case st.lacking:
		st.choice = choice{ok: true, lacking: true}
	default:
		st.choice.data, st.choice.ok = st.region.least(s.levels)
	}
	st.chosen = true
	return st.choice
}

// possible reports whether there is a choice.
func (s *search) possible(st *state) bool {
	return s.choice(st).ok
}

// decided returns the state of a place with another mark of a case that is undecided there.
func (s *search) decided(i int, st *state, which int, mark byte) *state {
	marks := []byte(st.marks)
	marks[which] = mark
	k := key{i, string(marks)}
	if next, ok := s.known[k]; ok {
		return next
	}
	v := s.places[i].views[which]
	next := &state{marks: k.marks}
	switch mark {
	case violated:
		next.region, next.lacking = st.region.minus(v.value), st.lacking && v.must
	case kept:
		next.region, next.lacking = st.region.and(v.value), st.lacking && !v.must
	}
	s.known[k] = next
	return next
}

// solved returns states in which all cases that are left are violated. What is not settled is tried: a case is violated at its first place, or not there but at the second one, and so on, so that no two tries have anything in common.
func (s *search) solved(states []*state, left []pending) ([]*state, bool) {
	var try func(states []*state, left []pending) ([]*state, bool)
	try = func(states []*state, left []pending) ([]*state, bool) {
		states = slices.Clone(states)
		left, ok := s.settled(states, left)
		if !ok || len(left) == 0 {
			return states, ok
		}
		p, rest := narrowest(left)
		before := slices.Clone(states)
		var tried []int
	places:
		for _, i := range p.at {
			for _, o := range tried {
				if before[o].marks == before[i].marks && s.places[o].alike(s.places[i]) {
					continue places // it would fail, too
				}
			}
			states[i] = s.decided(i, before[i], p.which, violated)
			if found, ok := try(states, rest); ok {
				return found, true
			}
			states[i] = s.decided(i, before[i], p.which, kept)
			if !s.possible(states[i]) {
				break places
			}
			tried = append(tried, i)
		}
		return nil, false
	}
	return try(states, left)
}

// narrowest returns the case with the fewest places, and the others.
func narrowest(left []pending) (pending, []pending) {
	best := 0
	for n, p := range left {
		if len(p.at) < len(left[best].at) {
			best = n
		}
	}
	return left[best], slices.Delete(slices.Clone(left), best, best+1)
}
