package langtext

import (
	"cmp"
	"container/heap"
	"maps"
	"slices"

	"configlang/api"
)

// graph is states and the terms of the strings that lead from one to another one.
type graph struct {
	*builder
	flat   bool // states whose terms have few levels are eliminated first
	edges  map[[2]int]*term
	states []*state
}

// state is the states other than itself to which edges lead from it, and from which they lead to it.
type state struct {
	in, out           map[int]bool
	inBytes, outBytes int // of the terms of these edges
	levels            int // that a term of an edge has had
	change            int // how often the costs have changed
}

// candidate is a state that may be eliminated next, if nothing has changed since its costs were found.
type candidate struct {
	state, change int
	levels        int
	cost          int // by which the terms of the other states grow
	bytes         int
}

// candidates is a heap: the cheapest one first. Of equal ones, that with the shortest terms is eliminated first, so that long terms are joined with long ones.
type candidates []candidate

// eliminate returns the term of the strings of a valid l, with fewer levels but more parts if it shall be flat; false if it finds one on the way that is not permitted.
func eliminate(l api.Lang, b *builder, flat bool, permitted func(*term) bool) (*term, bool) {
	g := newGraph(l, b)
	g.flat = flat
	begin, end := len(l.States), len(l.States)+1
	queue := &candidates{}
	push := func(n int) {
		if n != begin && n != end {
			heap.Push(queue, g.candidate(n))
		}
	}
	bypass := func(n int) bool {
		before, behind := sorted(g.states[n].in), sorted(g.states[n].out)
		loop := b.star(g.between(n, n))
		for _, i := range before {
			head := b.cat(g.between(i, n), loop)
			for _, j := range behind {
				g.add(i, j, b.cat(head, g.between(n, j)))
				if !permitted(g.between(i, j)) {
					return false
				}
			}
		}
		g.remove(n)
		for _, i := range slices.Concat(before, behind) {
			push(i)
		}
		return true
	}
	for n := range l.States {
		push(n)
	}
	for queue.Len() > 0 {
		c := heap.Pop(queue).(candidate)
		if c.change == g.states[c.state].change && !bypass(c.state) {
			return nil, false
		}
	}
	return g.between(begin, end), true
}

// newGraph returns the graph of an automaton, with a state before the initial one, and one behind those that accept.
func newGraph(l api.Lang, b *builder) *graph {
	g := &graph{builder: b, edges: map[[2]int]*term{}}
	begin, end := len(l.States), len(l.States)+1
	for range end + 1 {
		g.states = append(g.states, &state{in: map[int]bool{}, out: map[int]bool{}})
	}
	for n, s := range l.States {
		for _, e := range s.Edges {
			g.add(n, e.To, b.oneOf(e.Lo, e.Hi))
		}
		if s.Accept {
			g.add(n, end, b.empty())
		}
	}
	if len(l.States) > 0 {
		g.add(begin, 0, b.empty())
	}
	return g
}

// between returns the term of an edge, or nothing if there is none.
func (g *graph) between(from, to int) *term {
	if t := g.edges[[2]int{from, to}]; t != nil {
		return t
	}
	return g.nothing()
}

// add adds a term to those of an edge.
func (g *graph) add(from, to int, t *term) {
	g.put(from, to, g.alt(g.between(from, to), t))
}

// put sets the term of an edge.
func (g *graph) put(from, to int, t *term) {
	key := [2]int{from, to}
	grown := t.weight() - g.between(from, to).weight()
	g.edges[key] = t
	a, b := g.states[from], g.states[to]
	a.change++
	b.change++
	a.levels = max(a.levels, t.levels)
	b.levels = max(b.levels, t.levels)
	if from == to {
		return
	}
	a.out[to], b.in[from] = true, true
	a.outBytes += grown
	b.inBytes += grown
}

// remove removes a state with its edges.
func (g *graph) remove(n int) {
	s := g.states[n]
	s.change++
	for i := range s.in {
		other := g.states[i]
		other.change++
		other.outBytes -= g.between(i, n).weight()
		delete(other.out, n)
		delete(g.edges, [2]int{i, n})
	}
	for j := range s.out {
		other := g.states[j]
		other.change++
		other.inBytes -= g.between(n, j).weight()
		delete(other.in, n)
		delete(g.edges, [2]int{n, j})
	}
	delete(g.edges, [2]int{n, n})
}

// candidate returns what the elimination of a state costs now.
func (g *graph) candidate(n int) candidate {
	s := g.states[n]
	loop := g.between(n, n).weight()
	in, out := len(s.in), len(s.out)
	c := candidate{
		state:  n,
		change: s.change,
		cost:   s.inBytes*(out-1) + s.outBytes*(in-1) + loop*(in*out-1),
		bytes:  s.inBytes + s.outBytes + loop,
	}
	if g.flat {
		c.levels = s.levels
	}
	return c
}

// sorted returns the elements of a set in ascending order.
func sorted(set map[int]bool) []int {
	return slices.Sorted(maps.Keys(set))
}

// Len returns the number of candidates.
func (c candidates) Len() int {
	return len(c)
}

// Less reports whether one candidate is to be eliminated before another one.
func (c candidates) Less(i, j int) bool {
	x, y := c[i], c[j]
	return cmp.Or(cmp.Compare(x.levels, y.levels), cmp.Compare(x.cost, y.cost), cmp.Compare(x.bytes, y.bytes), cmp.Compare(x.state, y.state)) < 0
}

// Swap exchanges two candidates.
func (c candidates) Swap(i, j int) {
	c[i], c[j] = c[j], c[i]
}

// Push adds a candidate at the end.
func (c *candidates) Push(x any) {
	*c = append(*c, x.(candidate))
}

// Pop removes the candidate at the end.
func (c *candidates) Pop() any {
	last := len(*c) - 1
	x := (*c)[last]
	*c = (*c)[:last]
	return x
}
