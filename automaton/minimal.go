package automaton

import (
	"configlang/api"
	"configlang/byteset"
)

// arrow is an edge, seen from the state to which it leads.
type arrow struct {
	from   int
	lo, hi byte
}

// minimal returns the canonical automaton of a well-formed table.
func (t table) minimal() api.Lang {
	if len(t) == 0 {
		return api.Lang{}
	}
	return t.number(t.blocks())
}

// blocks returns for each state the number of its block, -1 if it does not lie on a path from state 0 to an accepting state; the states of a block accept the same strings.
func (t table) blocks() []int {
	if len(t) == 0 {
		return nil
	}
	if block, ok := t.fold(); ok {
		return block
	}
	into := t.arrows()
	p := newPartition(t, t.useful(into))
	p.refine(into)
	return p.block
}

// numbered reports whether the states of a well-formed table are numbered as they are met from state 0, and no edge is cut in two.
func (t table) numbered() bool {
	met := 1
	for n, s := range t {
		if n >= met {
			return false
		}
		for i, e := range s.Edges {
			if e.To > met || i > 0 && s.Edges[i-1].To == e.To && int(s.Edges[i-1].Hi)+1 == int(e.Lo) {
				return false
			}
			met = max(met, e.To+1)
		}
	}
	return true
}

// least reports whether each state of a well-formed table is a block of its own.
func (t table) least() bool {
	if len(t) == 1 {
		return t[0].Accept // as it is for the set of all strings, which is met most often
	}
	taken := make([]bool, len(t))
	for _, b := range t.blocks() {
		if b < 0 || taken[b] {
			return false
		}
		taken[b] = true
	}
	return true
}

// arrows returns for each state the edges that lead to it.
func (t table) arrows() [][]arrow {
	into := make([][]arrow, len(t))
	for n, s := range t {
		for _, e := range s.Edges {
			into[e.To] = append(into[e.To], arrow{from: n, lo: e.Lo, hi: e.Hi})
		}
	}
	return into
}

// useful reports for each state whether it lies on a path from state 0 to an accepting state.
func (t table) useful(into [][]arrow) []bool {
	var accepting []int
	for n, s := range t {
		if s.Accept {
			accepting = append(accepting, n)
		}
	}
	reached := spread(len(t), []int{0}, func(n int, visit func(int)) {
		for _, e := range t[n].Edges {
			visit(e.To)
		}
	})
	alive := spread(len(t), accepting, func(n int, visit func(int)) {
		for _, a := range into[n] {
			visit(a.from)
		}
	})
	for n := range alive {
		alive[n] = alive[n] && reached[n]
	}
	return alive
}

// spread reports which of n states can be reached from some of them; next visits those to which one leads.
func spread(n int, from []int, next func(n int, visit func(int))) []bool {
	seen := make([]bool, n)
	var found []int
	visit := func(m int) {
		if m < n && !seen[m] {
			seen[m] = true
			found = append(found, m)
		}
	}
	for _, m := range from {
		visit(m)
	}
	for i := 0; i < len(found); i++ {
		next(found[i], visit)
	}
	return seen
}

// number returns the automaton with one state for each block, numbered as they are met from state 0; states without a block are left out.
func (t table) number(block []int) api.Lang {
	if block[0] < 0 {
		return api.Lang{}
	}
	numbers := make([]int, len(t)) // of each block, 0 if it has not been met
	found := []int{0}              // for each number a state of its block
	var states []api.State
	for i := 0; i < len(found); i++ {
		from := t[found[i]]
		state := api.State{Accept: from.Accept}
		for _, e := range from.Edges {
			to := block[e.To]
			if to < 0 {
				continue
			}
			if numbers[to] == 0 && to != block[0] {
				numbers[to] = len(found)
				found = append(found, e.To)
			}
			state.Edges = appendEdge(state.Edges, api.Edge{Lo: e.Lo, Hi: e.Hi, To: numbers[to]})
		}
		states = append(states, state)
	}
	return api.Lang{States: states}
}

// appendEdge appends an edge, or extends the last one if both are one edge that is cut in two.
func appendEdge(l []api.Edge, e api.Edge) []api.Edge {
	if last := len(l) - 1; last >= 0 && l[last].To == e.To && int(l[last].Hi)+1 == int(e.Lo) {
		l[last].Hi = e.Hi
		return l
	}
	return append(l, e)
}

// partition divides the useful states into blocks, which become smaller until the states of each one accept the same strings.
type partition struct {
	order    []int // the useful states, those of a block next to each other
	place    []int // where each state is in order
	block    []int // the block of each state, -1 if it is not useful
	from, to []int // where each block begins and ends in order
	pending  []int // the blocks that may still divide others
	waits    []bool
}

// newPartition returns the partition into the states that accept and those that do not.
func newPartition(t table, useful []bool) *partition {
	p := &partition{place: make([]int, len(t)), block: make([]int, len(t))}
	for _, accept := range []bool{true, false} {
		from := len(p.order)
		for n, s := range t {
			if useful[n] && s.Accept == accept {
				p.block[n] = len(p.from)
				p.place[n] = len(p.order)
				p.order = append(p.order, n)
			}
		}
		if len(p.order) > from {
			p.wait(p.add(from, len(p.order)))
		}
	}
	for n := range p.block {
		if !useful[n] {
			p.block[n] = -1
		}
	}
	return p
}

// refine divides blocks until the states of each one lead into the same blocks with the same bytes.
func (p *partition) refine(into [][]arrow) {
	reads := make([]api.Bytes, len(into)) // kept empty between the steps: it would cost too much to make it for each one
refining:
	for len(p.pending) > 0 {
		last := len(p.pending) - 1
		b := p.pending[last]
		p.pending = p.pending[:last]
		p.waits[b] = false
		for _, group := range p.groups(into, b, reads) {
			if len(p.from) == len(p.order) {
				break refining
			}
			p.detach(group)
		}
	}
}

// groups returns the states that lead into a block, divided by their own blocks and by the bytes with which they do.
func (p *partition) groups(into [][]arrow, b int, reads []api.Bytes) [][]int {
	var sources []int
	for _, n := range p.order[p.from[b]:p.to[b]] {
		for _, a := range into[n] {
			if p.block[a.from] < 0 {
				continue
			}
			if reads[a.from] == (api.Bytes{}) {
				sources = append(sources, a.from)
			}
			reads[a.from] = byteset.Or(reads[a.from], byteset.Of(a.lo, a.hi))
		}
	}
	type key struct {
		block int
		reads api.Bytes
	}
	index := map[key]int{}
	var groups [][]int
	for _, n := range sources {
		k := key{block: p.block[n], reads: reads[n]}
		reads[n] = api.Bytes{}
		i, ok := index[k]
		if !ok {
			i = len(groups)
			index[k] = i
			groups = append(groups, nil)
		}
		groups[i] = append(groups[i], n)
	}
	return groups
}

// detach makes some states of one block a block of their own, unless they are the whole block.
func (p *partition) detach(group []int) {
	b := p.block[group[0]]
	if len(group) == p.size(b) {
		return
	}
	end := p.to[b]
	c := p.add(end-len(group), end)
	for _, n := range group {
		p.to[b]--
		p.swap(p.place[n], p.to[b])
		p.block[n] = c
	}
	// States that do not differ in how they lead into the former block and into one of its halves do not differ in how they lead into the other half: the smaller one is enough.
	if p.waits[b] || p.size(c) < p.size(b) {
		p.wait(c)
	} else {
		p.wait(b)
	}
}

// add adds a block and returns it.
func (p *partition) add(from, to int) int {
	p.from = append(p.from, from)
	p.to = append(p.to, to)
	p.waits = append(p.waits, false)
	return len(p.from) - 1
}

// wait puts a block among the pending ones.
func (p *partition) wait(b int) {
	p.waits[b] = true
	p.pending = append(p.pending, b)
}

// size returns the number of states of a block.
func (p *partition) size(b int) int {
	return p.to[b] - p.from[b]
}

// swap exchanges the states at two places of order.
func (p *partition) swap(i, j int) {
	n, m := p.order[i], p.order[j]
	p.order[i], p.order[j] = m, n
	p.place[n], p.place[m] = j, i
}
