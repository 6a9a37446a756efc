package lang

import (
	"iter"

	"configlang/api"
)

// none is the state of an automaton that accepts no further string.
const none = -1

// pair is a state of a product: the states in which two automata are.
type pair struct {
	a, b int
}

// move is bytes with which two automata go to the states of to.
type move struct {
	lo, hi byte
	to     pair
}

// product returns a table of the strings for which accept holds, given whether a and b accept them. Its states are numbered as they are met breadth-first.
func product(a, b []api.State, accept func(x, y bool) bool) []api.State {
	hopeless := func(p pair) bool {
		mayA, mayB := p.a != none, p.b != none
		return !accept(false, false) &&
			!(mayA && accept(true, false)) && !(mayB && accept(false, true)) && !(mayA && mayB && accept(true, true))
	}
	numbers := map[pair]int{}
	var pairs []pair
	number := func(p pair) int {
		n, ok := numbers[p]
		if !ok {
			n = len(pairs)
			numbers[p] = n
			pairs = append(pairs, p)
		}
		return n
	}
	number(pair{first(a), first(b)})
	var states []api.State
	for len(states) < len(pairs) {
		// The pairs that are met in this round wait for the next one.
		for _, p := range pairs[len(states):len(pairs):len(pairs)] {
			s := api.State{Accept: accept(in(a, p.a), in(b, p.b))}
			for m := range moves(a, b, p) {
				if !hopeless(m.to) {
					s.Edges = append(s.Edges, api.Edge{Lo: m.lo, Hi: m.hi, To: number(m.to)})
				}
			}
			states = append(states, s)
		}
	}
	return states
}

// first returns the initial state of an automaton.
func first(l []api.State) int {
	if len(l) == 0 {
		return none
	}
	return 0
}

// in reports whether an automaton accepts in a state.
func in(l []api.State, state int) bool {
	return state != none && l[state].Accept
}

// moves yields, in ascending order, all bytes with where they lead from a pair.
func moves(a, b []api.State, from pair) iter.Seq[move] {
	return func(yield func(move) bool) {
		x, y := edges(a, from.a), edges(b, from.b)
		for lo := 0; lo < 256; {
			var m move
			m.lo = byte(lo)
			x = skip(x, m.lo)
			y = skip(y, m.lo)
			toA, hiA := target(x, m.lo)
			toB, hiB := target(y, m.lo)
			m.to, m.hi = pair{toA, toB}, min(hiA, hiB)
			if !yield(m) {
				return
			}
			lo = int(m.hi) + 1
		}
	}
}

// edges returns the edges of a state.
func edges(l []api.State, state int) []api.Edge {
	if state == none {
		return nil
	}
	return l[state].Edges
}

// skip returns the edges that do not end before a byte.
func skip(l []api.Edge, b byte) []api.Edge {
	for len(l) > 0 && l[0].Hi < b {
		l = l[1:]
	}
	return l
}

// target returns where a byte leads, and the last byte up to which all bytes do so, given the edges that do not end before it.
func target(l []api.Edge, b byte) (int, byte) {
	switch {
	case len(l) == 0:
		return none, 255
	case b < l[0].Lo:
		return none, l[0].Lo - 1
	}
	return l[0].To, l[0].Hi
}
