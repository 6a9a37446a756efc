package automaton

import (
	"slices"

	"configlang/api"
)

// manyLoops is how many states that lead to themselves are compared with each other.
const manyLoops = 16

// folder finds the states that accept the same strings, given for each state those to which it leads, except itself. Automata of labels seldom have other cycles, and are divided into blocks much faster than by a partition.
type folder struct {
	states table
	block  []int          // a state that accepts the same strings as this one; -1 if there are none
	known  map[string]int // the states that are blocks of their own, by their keys
	loops  []int          // those of them that lead to themselves
	edges  []api.Edge     // those of the state that is being placed, as they lead to blocks and to itself
	text   []byte         // its key
}

// fold returns for each state of a table the number of its block, -1 if it does not lie on a path from state 0 to an accepting state; false if there are cycles through several states, or the blocks are not clear.
func (t table) fold() ([]int, bool) {
	order, ok := t.bottomUp()
	if !ok {
		return nil, false
	}
	f := folder{states: t, block: make([]int, len(t)), known: map[string]int{}}
	for n := range f.block {
		f.block[n] = -1
	}
	for _, n := range order {
		if !f.place(n) {
			return nil, false
		}
	}
	return f.block, true
}

// bottomUp returns the states that are reached from state 0, each one behind those to which it leads, except itself; false if there is no such order.
func (t table) bottomUp() ([]int, bool) {
	const unseen, open, done = 0, 1, 2
	mark := make([]byte, len(t))
	next := make([]int, len(t)) // the first edge of each state that has not been followed
	var order []int
	for path := []int{0}; len(path) > 0; {
		n := path[len(path)-1]
		mark[n] = open
		if next[n] == len(t[n].Edges) {
			mark[n] = done
			order = append(order, n)
			path = path[:len(path)-1]
			continue
		}
		to := t[n].Edges[next[n]].To
		next[n]++
		switch {
		case mark[to] == unseen:
			path = append(path, to)
		case mark[to] == open && to != n:
			return nil, false
		}
	}
	return order, true
}

// place finds the block of a state, whose edges lead to states that have been placed, and to itself; false if it is not clear.
func (f *folder) place(n int) bool {
	f.follow(n)
	if !f.states[n].Accept && f.leadOnlyTo(n) {
		return true
	}
	loop := f.leadTo(n)
	if loop && !f.clear(n) {
		return false
	}
	f.write(n, n)
	if m, ok := f.known[string(f.text)]; ok {
		f.block[n] = m
		return true
	}
	f.block[n] = n
	f.known[string(f.text)] = n
	if loop {
		f.loops = append(f.loops, n)
		// A state without a loop may lead to this one as this one does itself.
		f.write(n, none)
		f.known[string(f.text)] = n
	}
	return true
}

// clear reports whether a state that leads to itself accepts the same strings as an earlier one only if that one leads to itself with the same bytes, and else to the same states: if it does not lead to such a state.
func (f *folder) clear(n int) bool {
	for _, m := range f.loops {
		if f.states[m].Accept == f.states[n].Accept && f.leadTo(m) {
			return false
		}
	}
	return len(f.loops) < manyLoops
}

// follow finds the edges of a state.
func (f *folder) follow(n int) {
	f.edges = f.edges[:0]
	for _, e := range f.states[n].Edges {
		if e.To != n {
			e.To = f.block[e.To]
		}
		if e.To >= 0 {
			f.edges = appendEdge(f.edges, e)
		}
	}
}

// none is the number of no state.
const none = -1

// write writes the key of a state, in which one state to which its edges lead has no number.
func (f *folder) write(n, without int) {
	f.text = append(f.text[:0], 0)
	if f.states[n].Accept {
		f.text[0] = 1
	}
	for _, e := range f.edges {
		if e.To == without {
			e.To = none
		}
		f.text = append(f.text, e.Lo, e.Hi, byte(e.To), byte(e.To>>8), byte(e.To>>16), byte(e.To>>24))
	}
}

// leadTo reports whether an edge leads to a state.
func (f *folder) leadTo(n int) bool {
	return slices.ContainsFunc(f.edges, func(e api.Edge) bool { return e.To == n })
}

// leadOnlyTo reports whether no edge leads to another state.
func (f *folder) leadOnlyTo(n int) bool {
	return !slices.ContainsFunc(f.edges, func(e api.Edge) bool { return e.To != n })
}
