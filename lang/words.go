package lang

import (
	"iter"
	"slices"

	"configlang/api"
)

// edge is the byte with which a state is first met, and the state from which it is.
type edge struct {
	from int
	with byte
}

// least returns the least string that a table accepts, whose states are numbered as they are met breadth-first.
func least(states []api.State) (string, bool) {
	// The state that is met first has the least string.
	end := slices.IndexFunc(states, accepts)
	if end < 0 {
		return "", false
	}
	met := []edge{{from: none}}
	for from, s := range states {
		for _, e := range s.Edges {
			if e.To == len(met) {
				met = append(met, edge{from: from, with: e.Lo})
			}
		}
	}
	var s []byte
	for at := end; at != 0; at = met[at].from {
		s = append(s, met[at].with)
	}
	slices.Reverse(s)
	return string(s), true
}

// cyclic reports whether a state can be reached again from itself.
func cyclic(states []api.State) bool {
	waiting := make([]int, len(states)) // the edges to each state from those that have not been left
	for _, s := range states {
		for _, e := range s.Edges {
			waiting[e.To]++
		}
	}
	var free []int
	for n, w := range waiting {
		if w == 0 {
			free = append(free, n)
		}
	}
	for i := 0; i < len(free); i++ {
		for _, e := range states[free[i]].Edges {
			waiting[e.To]--
			if waiting[e.To] == 0 {
				free = append(free, e.To)
			}
		}
	}
	return len(free) < len(states)
}

// words yields the strings of a valid automaton in shortlex order.
func words(states []api.State) iter.Seq[string] {
	return func(yield func(string) bool) {
		into := sources(states)
		var ends []int
		for n, s := range states {
			if s.Accept {
				ends = append(ends, n)
			}
		}
		// left[n] is the states from which some string of n bytes is accepted.
		for left := [][]int{ends}; len(left[len(left)-1]) > 0; left = append(left, before(into, left[len(left)-1])) {
			if !longest(states, left, yield) {
				return
			}
		}
	}
}

// sources returns for each state those from which an edge leads to it.
func sources(states []api.State) [][]int {
	into := make([][]int, len(states))
	for n, s := range states {
		for _, e := range s.Edges {
			into[e.To] = append(into[e.To], n)
		}
	}
	return into
}

// before returns the states from which an edge leads to some states, in ascending order.
func before(into [][]int, l []int) []int {
	var from []int
	for _, n := range l {
		from = append(from, into[n]...)
	}
	slices.Sort(from)
	return slices.Compact(from)
}

// longest yields the strings of the greatest length of left, in order, and reports whether more are wanted.
func longest(states []api.State, left [][]int, yield func(string) bool) bool {
	n := len(left) - 1
	if !contains(left[n], 0) {
		return true
	}
	word := make([]byte, n)
	path := make([]int, n+1) // the states to which the bytes lead
	least := 0               // the least byte at the place at
	for at := 0; at >= 0; {
		if at < n {
			if b, to, ok := next(states[path[at]], least, left[n-1-at]); ok {
				word[at] = b
				path[at+1] = to
				least = 0
				at++
				continue
			}
		} else if !yield(string(word)) {
			return false
		}
		at--
		if at >= 0 {
			least = int(word[at]) + 1
		}
	}
	return true
}

// next returns the first byte, from least on, that leads from a state to one of some states, and this state.
func next(s api.State, least int, targets []int) (byte, int, bool) {
	for _, e := range s.Edges {
		if int(e.Hi) >= least && contains(targets, e.To) {
			return byte(max(int(e.Lo), least)), e.To, true
		}
	}
	return 0, 0, false
}

// contains reports whether a number is in a list in ascending order.
func contains(l []int, n int) bool {
	_, ok := slices.BinarySearch(l, n)
	return ok
}
