package value

import (
	"iter"
	"math"
	"slices"

	"configlang/api"
	"configlang/automaton"
)

// manyStates is more than the states of all stages of most struct cases; those of many fields have about as many stages as states.
const manyStates = 1 << 20

// divided reports whether the sets of the classes of a struct case are valid and not empty, and each string is in exactly one of them or the label of a field. The labels are in ascending order.
func divided(c api.StructCase) bool {
	var m machines
	if len(c.Fields) > 0 {
		m.add(labels(c.Fields))
	}
	for _, k := range c.Classes {
		if len(k.Set.States) == 0 || !automaton.Valid(k.Set) {
			return false
		}
		m.add(k.Set.States)
	}
	return m.exact(manyStates + 2*len(m.states))
}

// labels returns a table that accepts the labels of fields, which are in ascending order.
func labels(l []api.Field) []api.State {
	states := make([]api.State, 1)
	path := []int{0} // the states to which the bytes of the last label lead
	last := ""
	for _, f := range l {
		at := common(last, f.Label)
		path = path[:at+1]
		for i := at; i < len(f.Label); i++ {
			from, to := path[i], len(states)
			states[from].Edges = append(states[from].Edges, api.Edge{Lo: f.Label[i], Hi: f.Label[i], To: to})
			states = append(states, api.State{})
			path = append(path, to)
		}
		states[path[len(f.Label)]].Accept = true
		last = f.Label
	}
	return states
}

// common returns the number of bytes with which both strings begin.
func common(a, b string) int {
	n := 0
	for n < len(a) && n < len(b) && a[n] == b[n] {
		n++
	}
	return n
}

// state is a state of one of several tables, which are kept in one list.
type state struct {
	api.State
	first int // where its table begins
}

// machines are tables that read a string at the same time. A stage is the states in which they are then, without those that have got stuck, in ascending order.
type machines struct {
	states []state
	start  []int
}

// add adds a well-formed table, which has an initial state.
func (m *machines) add(table []api.State) {
	first := len(m.states)
	m.start = append(m.start, first)
	for _, s := range table {
		m.states = append(m.states, state{State: s, first: first})
	}
}

// exact reports whether each string is accepted by exactly one table. Room is how many states of stages it may visit before it takes a way that is slower for few of them.
func (m *machines) exact(room int) bool {
	seen := map[string]bool{}
	ok, finished := m.visit(room, func(stage []int) bool {
		k := key(stage)
		found := seen[k]
		seen[k] = true
		return !found
	})
	if finished {
		return ok
	}
	// The stages can be as many as the product of the numbers of states. But take them as vectors: 1 for each state of a stage, 0 for each other one, and a 1 behind them. If a stage is a combination of others, then what follows from it with a string is the same combination of what follows from them; and the number of accepting states minus that last element is 0 for a combination of vectors for which it is. This holds modulo a prime, too, that is greater than any such number. So combinations of earlier stages need no visit, and there are no more others than elements of a vector.
	b := basis{}
	ok, _ = m.visit(math.MaxInt, func(stage []int) bool { return b.add(m.vector(stage)) })
	return ok
}

// visit follows all strings, and reports whether exactly one table accepts at each new stage. It gives up, and says so, when the new stages have more than a number of states.
func (m *machines) visit(room int, isNew func(stage []int) bool) (ok, finished bool) {
	isNew(m.start)
	for waiting := [][]int{m.start}; len(waiting) > 0; waiting = waiting[1:] {
		if m.accepting(waiting[0]) != 1 {
			return false, true
		}
		for stage := range m.next(waiting[0]) {
			if !isNew(stage) {
				continue
			}
			room -= len(stage)
			if room < 0 {
				return false, false
			}
			waiting = append(waiting, slices.Clone(stage))
		}
	}
	return true, true
}

// accepting returns how many tables accept at a stage.
func (m *machines) accepting(stage []int) int {
	n := 0
	for _, s := range stage {
		if m.states[s].Accept {
			n++
		}
	}
	return n
}

// next yields the stages that follow with all bytes, in memory that is used again for the next one; bytes that no edge tells apart have one together.
func (m *machines) next(stage []int) iter.Seq[[]int] {
	return func(yield func([]int) bool) {
		edges := make([][]api.Edge, len(stage)) // those of each state that are not left behind
		for i, s := range stage {
			edges[i] = m.states[s].Edges
		}
		var to []int
		for lo, hi := 0, 0; lo < 256; lo = hi + 1 {
			to = to[:0]
			hi = 255
			for i, s := range stage {
				for len(edges[i]) > 0 && int(edges[i][0].Hi) < lo {
					edges[i] = edges[i][1:]
				}
				switch l := edges[i]; {
				case len(l) == 0:
				case lo < int(l[0].Lo):
					hi = min(hi, int(l[0].Lo)-1)
				default:
					hi = min(hi, int(l[0].Hi))
					to = append(to, m.states[s].first+l[0].To)
				}
			}
			if !yield(to) {
				return
			}
		}
	}
}

// key returns a text that differs for different stages.
func key(stage []int) string {
	var text []byte
	for _, s := range stage {
		text = append(text, byte(s), byte(s>>8), byte(s>>16), byte(s>>24))
	}
	return string(text)
}

// vector returns 1 for each state of a stage, 0 for each other one, and 1 behind them.
func (m *machines) vector(stage []int) []uint64 {
	v := make([]uint64, len(m.states)+1)
	for _, s := range stage {
		v[s] = 1
	}
	v[len(m.states)] = 1
	return v
}
