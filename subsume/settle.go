package subsume

import (
	"slices"
	"strings"
)

// settled decides what can be decided without any loss, and returns the cases that are left, with the places at which they can still be violated; false if some case cannot be violated. It changes the states.
func (s *search) settled(states []*state, left []pending) ([]pending, bool) {
	for len(left) > 1 {
		n := len(left)
		var ok bool
		if left, ok = s.narrowed(states, left); !ok {
			return nil, false
		}
		if left, ok = s.forced(states, left); !ok {
			return nil, false
		}
		if len(left) == n {
			left = s.united(states, left)
		}
		if len(left) == n {
			return left, true
		}
	}
	return nil, len(left) == 0 || s.last(states, left[0])
}

// last reports whether the last case can be violated, and does so at the first place.
func (s *search) last(states []*state, p pending) bool {
	for _, i := range p.at {
		if st := s.decided(i, states[i], p.which, violated); s.possible(st) {
			states[i] = st
			return true
		}
	}
	return false
}

// narrowed leaves out places at which cases can no longer be violated, and cases that are violated whatever is at a place about which something has been decided; false if a case has no place left.
func (s *search) narrowed(states []*state, left []pending) ([]pending, bool) {
	var l []pending
cases:
	for _, p := range left {
		var at []int
		for _, i := range p.at {
			if !s.possible(s.decided(i, states[i], p.which, violated)) {
				continue
			}
			if !untouched(states[i]) && !s.possible(s.decided(i, states[i], p.which, kept)) {
				continue cases
			}
			at = append(at, i)
		}
		if len(at) == 0 {
			return nil, false
		}
		l = append(l, pending{p.which, at})
	}
	return l, true
}

// untouched reports whether nothing has been decided about a place.
func untouched(st *state) bool {
	return strings.Trim(st.marks, string(undecided)) == ""
}

// forced violates each case that has only one place there; false if that is not possible for all of them.
func (s *search) forced(states []*state, left []pending) ([]pending, bool) {
	var others []pending
	var changed []int
	for _, p := range left {
		if len(p.at) > 1 {
			others = append(others, p)
			continue
		}
		i := p.at[0]
		states[i] = s.decided(i, states[i], p.which, violated)
		changed = append(changed, i)
	}
	return others, !slices.ContainsFunc(changed, func(i int) bool { return !s.possible(states[i]) })
}

// united violates at a place all cases that can be violated there, where this is possible for all of them together.
func (s *search) united(states []*state, left []pending) []pending {
	for i := range s.places {
		here := func(p pending) bool { return slices.Contains(p.at, i) }
		st := states[i]
		for _, p := range left {
			if here(p) {
				st = s.decided(i, st, p.which, violated)
			}
		}
		if s.possible(st) {
			states[i] = st
			left = slices.DeleteFunc(left, here)
		}
	}
	return left
}
