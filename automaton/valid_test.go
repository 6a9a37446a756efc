package automaton_test

import (
	"strings"
	"testing"

	"configlang/api"
	"configlang/automaton"
)

// TestValid compares Valid with its definition for all tables of at most three states that read two bytes (P5.1).
func TestValid(t *testing.T) {
	valid := 0
	for n := range 4 {
		// Each state accepts or not, and leads to one of the states, or nowhere, with each byte.
		choices := 2 * (n + 1) * (n + 1)
		all := 1
		for range n {
			all *= choices
		}
		for code := range all {
			l := table(n, code, choices)
			want := fault(l.States) == ""
			if got := automaton.Valid(l); got != want {
				t.Fatalf("Valid(%v): %v", l, got)
			}
			if want {
				valid++
			}
		}
	}
	if valid < 500 {
		t.Errorf("%d automata are valid", valid)
	}
}

// table returns the table with a number: each state has one of some choices.
func table(n, code, choices int) api.Lang {
	var l api.Lang
	for range n {
		c := code % choices
		code /= choices
		s := api.State{Accept: c%2 == 1}
		c /= 2
		first, second := c%(n+1), c/(n+1)
		switch {
		case first > 0 && first == second && c%3 > 0:
			s.Edges = []api.Edge{edge('a', 'b', first-1)}
		default:
			if first > 0 {
				s.Edges = append(s.Edges, edge('a', 'a', first-1))
			}
			if second > 0 {
				s.Edges = append(s.Edges, edge('b', 'b', second-1))
			}
		}
		l.States = append(l.States, s)
	}
	return l
}

// TestLoops checks long chains of states that lead to themselves, one of which may be superfluous (P5.1).
func TestLoops(t *testing.T) {
	for _, n := range []int{2, 3, 15, 16, 17, 18, 40, 3000} {
		for _, twin := range []int{-1, 0, n / 2, n - 2} {
			var l api.Lang
			for i := range n {
				s := api.State{Accept: i%2 == 0 || i == twin+1, Edges: []api.Edge{edge('a', 'a', i)}}
				if i == n-1 {
					s.Accept = true
				} else if i == n-2 {
					s.Accept = false
				}
				if i < n-1 {
					s.Edges = append(s.Edges, edge('b', 'b', i+1))
				}
				l.States = append(l.States, s)
			}
			m, e := automaton.Minimal(l.States)
			if got := automaton.Valid(l); e != api.OK || got != automaton.Same(l, m) {
				t.Errorf("a chain of %d states: %v", n, got)
			}
		}
	}
	// Two states that both lead to themselves and from the first one to the second one accept the same strings.
	l := api.Lang{States: []api.State{
		{Accept: true, Edges: []api.Edge{edge('a', 'a', 0), edge('b', 'b', 1)}},
		{Accept: true, Edges: []api.Edge{edge('a', 'b', 1)}},
	}}
	if automaton.Valid(l) {
		t.Error("a state that leads to another one like it")
	}
}

// TestCut checks states that differ only in how their edges are cut, and in which of two states that accept the same strings they lead to (P5.1).
func TestCut(t *testing.T) {
	whole, cut := []api.Edge{edge('a', 'b', 3)}, []api.Edge{edge('a', 'a', 3), edge('b', 'b', 3)}
	both := []api.Edge{edge('a', 'a', 3), edge('b', 'b', 4)}
	want := of(t, "[ab][ab]")
	for i, l := range [][]api.Edge{whole, cut, both} {
		for j, m := range [][]api.Edge{whole, cut, both} {
			start := api.State{Edges: []api.Edge{edge('a', 'a', 1), edge('b', 'b', 2)}}
			got, e := automaton.Minimal([]api.State{start, {Edges: l}, {Edges: m}, {Accept: true}, {Accept: true}})
			if e != api.OK || !automaton.Same(got, want) {
				t.Errorf("edges %d and %d: %v, %d", i, j, got, e)
			}
		}
	}
}

// TestManyStates checks an automaton with more states than two bytes have values (P5.1).
func TestManyStates(t *testing.T) {
	l := automaton.Word(strings.Repeat("a", 1<<16+9))
	m, e := automaton.Minimal(l.States)
	if e != api.OK || !automaton.Same(l, m) || !automaton.Valid(l) {
		t.Error("a long word")
	}
}

// edge is an edge with some bytes.
func edge(lo, hi byte, to int) api.Edge {
	return api.Edge{Lo: lo, Hi: hi, To: to}
}
