// Package digraph is layer 45: directed graphs, given by the lists of successors. See shared/doc/45-digraph.md.
package digraph

import (
	"container/heap"
	"slices"
	"sort"
)

// maxCalls limits how deep a search calls itself, because a path may be longer than the stack of calls permits.
const maxCalls = 1000

// Reach reports for each node whether there is a path to it from one of the given nodes.
func Reach(g [][]int, from []int) []bool {
	seen := make([]bool, len(g))
	var later []int
	var visit func(n, calls int)
	visit = func(n, calls int) {
		if !isNode(g, n) || seen[n] {
			return
		}
		if calls == maxCalls {
			later = append(later, n)
			return
		}
		seen[n] = true
		for _, m := range g[n] {
			visit(m, calls+1)
		}
	}
	for _, n := range from {
		visit(n, 0)
	}
	for len(later) > 0 {
		n := later[len(later)-1]
		later = later[:len(later)-1]
		visit(n, 0)
	}
	return seen
}

// Components returns for each node the least node of its strongly connected component.
func Components(g [][]int) []int {
	least := make([]int, len(g))
	for n := range len(g) {
		least[n] = -1
	}
	back := Reverse(g)
	order := finished(g)
	slices.Reverse(order)
	// What leads to a node, and is not in the component of a node that was left later, is in its component.
	for _, n := range order {
		if least[n] < 0 {
			members := collect(back, n, least)
			first := slices.Min(members)
			for _, m := range members {
				least[m] = first
			}
		}
	}
	return least
}

// Topo returns the lexicographically least order in which each node precedes its successors, if there is no cycle.
func Topo(g [][]int) ([]int, bool) {
	waits := make([]int, len(g)) // how many edges from nodes that are not yet in the order lead to a node
	edges(g, func(n, m int) { waits[m]++ })
	free := &queue{}
	for n := range len(g) {
		if waits[n] == 0 {
			heap.Push(free, n)
		}
	}
	var order []int
	for free.Len() > 0 {
		n := heap.Pop(free).(int)
		order = append(order, n)
		for _, m := range g[n] {
			if !isNode(g, m) {
				continue
			}
			waits[m]--
			if waits[m] == 0 {
				heap.Push(free, m)
			}
		}
	}
	if len(order) < len(g) {
		return nil, false
	}
	return order, true
}

// Cycle returns the least of the shortest cycles through the first node that lies on one.
func Cycle(g [][]int) []int {
	start := cyclic(g)
	if start < 0 {
		return nil
	}
	left := Distances(Reverse(g), start) // how far a node is from the start, along the edges of g
	cycle := []int{start}
	n := nearest(g, start, left)
	for n != start {
		cycle = append(cycle, n)
		n = nearest(g, n, left)
	}
	return cycle
}

// Reverse returns the graph with all edges reversed.
func Reverse(g [][]int) [][]int {
	back := make([][]int, len(g))
	edges(g, func(n, m int) {
		// The nodes n are ascending, so that an edge that is repeated gives the same n as the last one.
		if l := back[m]; len(l) == 0 || l[len(l)-1] != n {
			back[m] = append(l, n)
		}
	})
	return back
}

// Distances returns the length of a shortest path from a node to each node, or -1.
func Distances(g [][]int, from int) []int {
	dist := make([]int, len(g))
	for n := range len(g) {
		dist[n] = -1
	}
	var found []int
	visit := func(n, d int) {
		if isNode(g, n) && dist[n] < 0 {
			dist[n] = d
			found = append(found, n)
		}
	}
	visit(from, 0)
	for i := 0; i < len(found); i++ {
		n := found[i]
		for _, m := range g[n] {
			visit(m, dist[n]+1)
		}
	}
	return dist
}

// queue is a heap of nodes.
type queue struct {
	sort.IntSlice
}

// Push adds a node at the end.
func (q *queue) Push(x any) {
	q.IntSlice = append(q.IntSlice, x.(int))
}

// Pop removes the node at the end.
func (q *queue) Pop() any {
	last := q.Len() - 1
	n := q.IntSlice[last]
	q.IntSlice = q.IntSlice[:last]
	return n
}

// isNode reports whether n is a node of g.
func isNode(g [][]int, n int) bool {
	return 0 <= n && n < len(g)
}

// edges calls f for each edge from a node to a node, in ascending order of the nodes from which they lead.
func edges(g [][]int, f func(n, m int)) {
	for n := range len(g) {
		for _, m := range g[n] {
			if isNode(g, m) {
				f(n, m)
			}
		}
	}
}

// finished returns the nodes in the order in which a depth-first search leaves them. The search keeps its own path, because the order does not allow it to put nodes off.
func finished(g [][]int) []int {
	seen := make([]bool, len(g))
	next := make([]int, len(g)) // the index of the successor to examine next
	var order, path []int
	enter := func(n int) bool {
		if !isNode(g, n) || seen[n] {
			return false
		}
		seen[n] = true
		path = append(path, n)
		return true
	}
	for root := range len(g) {
		enter(root)
	search:
		for len(path) > 0 {
			n := path[len(path)-1]
			for next[n] < len(g[n]) {
				m := g[n][next[n]]
				next[n]++
				if enter(m) {
					continue search
				}
			}
			path = path[:len(path)-1]
			order = append(order, n)
		}
	}
	return order
}

// collect returns the nodes that can be reached in back from n through nodes without a component, and marks them in least.
func collect(back [][]int, n int, least []int) []int {
	members := []int{n}
	least[n] = n
	for i := 0; i < len(members); i++ {
		for _, m := range back[members[i]] {
			if least[m] < 0 {
				least[m] = n
				members = append(members, m)
			}
		}
	}
	return members
}

// cyclic returns the first node that lies on a cycle, or -1.
func cyclic(g [][]int) int {
	least := Components(g)
	for n := range len(g) {
		for _, m := range g[n] {
			// An edge within a component lies on a cycle.
			if isNode(g, m) && least[m] == least[n] {
				return n
			}
		}
	}
	return -1
}

// nearest returns the least of the successors of n that are nearest to the goal; n has one with a distance.
func nearest(g [][]int, n int, left []int) int {
	best := -1
	for _, m := range g[n] {
		if !isNode(g, m) || left[m] < 0 {
			continue
		}
		if best < 0 || left[m] < left[best] || left[m] == left[best] && m < best {
			best = m
		}
	}
	return best
}
