package digraph_test

import (
	"math"
	"runtime/debug"
	"slices"
	"testing"

	"configlang/digraph"
)

// graphs returns graphs of up to six nodes, with repeated successors and successors that are no nodes.
func graphs() [][][]int {
	l := [][][]int{nil, {}, {nil}, {{0}}, {{-1, 1, math.MaxInt, math.MinInt}}, {{1}, {2}, {0}}, {{1, 2}, {3}, {3, 3, 9, -1}, {1}, {4}}}
	x := uint64(3)
	random := func(n int) int {
		x = x*6364136223846793005 + 1442695040888963407
		return int(x>>33) % n
	}
	for i := range 3000 {
		g := make([][]int, 1+i%6)
		for range random(2*len(g) + 1) {
			n := random(len(g))
			g[n] = append(g[n], random(len(g)+2)-1)
		}
		l = append(l, g)
	}
	return l
}

// closure returns the lengths of the shortest paths between all nodes, or -1, by trying all intermediate nodes.
func closure(g [][]int) [][]int {
	const far = 1 << 20
	d := make([][]int, len(g))
	for n := range g {
		d[n] = make([]int, len(g))
		for m := range g {
			d[n][m] = far
			if slices.Contains(g[n], m) {
				d[n][m] = 1
			}
		}
		d[n][n] = 0
	}
	for k := range g {
		for n := range g {
			for m := range g {
				d[n][m] = min(d[n][m], d[n][k]+d[k][m])
			}
		}
	}
	for n := range g {
		for m := range g {
			if d[n][m] >= far {
				d[n][m] = -1
			}
		}
	}
	return d
}

// TestReach checks what can be reached from some nodes, and from none (P45.1).
func TestReach(t *testing.T) {
	for _, g := range graphs() {
		d := closure(g)
		for _, from := range [][]int{nil, {0}, {1, 1}, {len(g) - 1, 0}, {-1}, {len(g)}, {math.MinInt, 0, math.MaxInt}} {
			want := make([]bool, len(g))
			for _, n := range from {
				for m := range g {
					want[m] = want[m] || n >= 0 && n < len(g) && d[n][m] >= 0
				}
			}
			if got := digraph.Reach(g, from); !slices.Equal(got, want) {
				t.Fatalf("Reach(%v, %v): %v, want %v", g, from, got, want)
			}
		}
	}
}

// TestReverse checks that an edge leads back exactly if one leads forth (P45.1).
func TestReverse(t *testing.T) {
	for _, g := range graphs() {
		back := digraph.Reverse(g)
		if len(back) != len(g) {
			t.Fatalf("Reverse(%v): %v", g, back)
		}
		for m := range g {
			var want []int
			for n := range g {
				if slices.Contains(g[n], m) {
					want = append(want, n)
				}
			}
			if !slices.Equal(back[m], want) {
				t.Fatalf("Reverse(%v): node %d has %v, want %v", g, m, back[m], want)
			}
		}
	}
}

// TestDistances checks the lengths of shortest paths (P45.1).
func TestDistances(t *testing.T) {
	for _, g := range graphs() {
		d := closure(g)
		for from := range g {
			if got := digraph.Distances(g, from); !slices.Equal(got, d[from]) {
				t.Fatalf("Distances(%v, %d): %v, want %v", g, from, got, d[from])
			}
		}
		for _, from := range []int{-1, len(g), math.MinInt, math.MaxInt} {
			got := digraph.Distances(g, from)
			if len(got) != len(g) || slices.ContainsFunc(got, func(x int) bool { return x != -1 }) {
				t.Fatalf("Distances(%v, %d): %v", g, from, got)
			}
		}
	}
}

// TestComponents checks that nodes are in one component exactly if each can be reached from the other one (P45.2, P45.3).
func TestComponents(t *testing.T) {
	for _, g := range graphs() {
		d := closure(g)
		got := digraph.Components(g)
		if len(got) != len(g) {
			t.Fatalf("Components(%v): %v", g, got)
		}
		for n := range g {
			least := slices.IndexFunc(d[n], func(x int) bool { return x >= 0 })
			for least >= 0 && (d[n][least] < 0 || d[least][n] < 0) {
				least++
			}
			if got[n] != least {
				t.Fatalf("Components(%v): %v, node %d is in that of %d", g, got, n, least)
			}
		}
	}
}

// leastOrder returns the order that always takes the least node whose predecessors are all taken.
func leastOrder(g [][]int) []int {
	var order []int
next:
	for len(order) < len(g) {
		for n := range g {
			free := !slices.Contains(order, n)
			for m := range g {
				free = free && (slices.Contains(order, m) || !slices.Contains(g[m], n))
			}
			if free {
				order = append(order, n)
				continue next
			}
		}
		return nil
	}
	return order
}

// TestTopo checks orders, and that there is one exactly if there is no cycle (P45.2, P45.3).
func TestTopo(t *testing.T) {
	for _, g := range graphs() {
		want := leastOrder(g)
		possible := len(want) == len(g)
		got, ok := digraph.Topo(g)
		if ok != possible || !slices.Equal(got, want) {
			t.Fatalf("Topo(%v): %v, %v, want %v", g, got, ok, want)
		}
		if ok != (len(digraph.Cycle(g)) == 0) {
			t.Fatalf("Topo and Cycle of %v", g)
		}
	}
}

// allCycles calls f for each cycle through start without repeated nodes.
func allCycles(g [][]int, start int, f func([]int)) {
	var walk func(path []int)
	walk = func(path []int) {
		for _, m := range g[path[len(path)-1]] {
			if m == start {
				f(path)
			} else if m >= 0 && m < len(g) && !slices.Contains(path, m) {
				walk(append(slices.Clone(path), m))
			}
		}
	}
	walk([]int{start})
}

// leastCycle returns the cycle that Cycle must return, by looking at all of them.
func leastCycle(g [][]int) []int {
	for start := range g {
		var best []int
		allCycles(g, start, func(c []int) {
			if best == nil || len(c) < len(best) || len(c) == len(best) && slices.Compare(c, best) < 0 {
				best = slices.Clone(c)
			}
		})
		if best != nil {
			return best
		}
	}
	return nil
}

// TestCycle checks which cycle is found (P45.2).
func TestCycle(t *testing.T) {
	for _, g := range graphs() {
		if got, want := digraph.Cycle(g), leastCycle(g); !slices.Equal(got, want) {
			t.Fatalf("Cycle(%v): %v, want %v", g, got, want)
		}
	}
}

// TestExamples checks graphs whose results can be seen (P45.2).
func TestExamples(t *testing.T) {
	if got := digraph.Cycle([][]int{{1}, {2}, {0}}); !slices.Equal(got, []int{0, 1, 2}) {
		t.Errorf("a cycle of three nodes: %v", got)
	}
	if got := digraph.Cycle([][]int{{1}, {1, 2}, {1}}); !slices.Equal(got, []int{1}) {
		t.Errorf("an edge from a node to itself: %v", got)
	}
	if got := digraph.Cycle([][]int{{3, 2, 1}, {4}, {4}, {4}, {0}}); !slices.Equal(got, []int{0, 1, 4}) {
		t.Errorf("the least of three cycles: %v", got)
	}
	if got := digraph.Cycle([][]int{{1}, {2, 3}, {0}, {4}, {1}}); !slices.Equal(got, []int{0, 1, 2}) {
		t.Errorf("the first node on a cycle: %v", got)
	}
	if got, ok := digraph.Topo([][]int{{}, {0, 0}, {0}, {1, 7}}); !ok || !slices.Equal(got, []int{2, 3, 1, 0}) {
		t.Errorf("the least order: %v, %v", got, ok)
	}
	if got, ok := digraph.Topo(nil); !ok || len(got) != 0 {
		t.Errorf("the order of no nodes: %v, %v", got, ok)
	}
}

// TestLong checks graphs whose paths are longer than the stack of calls permits (P45.1, P45.2).
func TestLong(t *testing.T) {
	const size = 1000000
	defer debug.SetMaxStack(debug.SetMaxStack(16 << 20))
	g := make([][]int, size)
	for n := range size - 1 {
		g[n] = []int{n + 1}
	}
	if got := digraph.Reach(g, []int{1}); got[0] || slices.Index(got[1:], false) >= 0 {
		t.Error("Reach of a long path")
	}
	if got := digraph.Distances(g, 0); got[size-1] != size-1 {
		t.Error("Distances of a long path")
	}
	if got := digraph.Components(g); got[size-1] != size-1 || got[0] != 0 {
		t.Error("Components of a long path")
	}
	g[size-1] = []int{5}
	if got := digraph.Components(g); got[size-1] != 5 || got[4] != 4 {
		t.Error("Components of a long cycle")
	}
	if got := digraph.Cycle(g); len(got) != size-5 || got[0] != 5 || got[size-6] != size-1 {
		t.Error("Cycle of a long cycle")
	}
}

// TestArguments checks that arguments are not modified and not shared (P45.1, P45.2).
func TestArguments(t *testing.T) {
	g := [][]int{{2, 1, 1}, {0}, {9, -1}}
	same := [][]int{{2, 1, 1}, {0}, {9, -1}}
	from := []int{2, 0}
	digraph.Reach(g, from)
	digraph.Components(g)
	digraph.Topo(g)
	digraph.Distances(g, 0)
	for _, l := range digraph.Reverse(g) {
		for i := range l {
			l[i] = 77
		}
	}
	for i := range digraph.Cycle(g) {
		digraph.Cycle(g)[i] = 77
	}
	if !slices.EqualFunc(g, same, slices.Equal[[]int]) || !slices.Equal(from, []int{2, 0}) {
		t.Errorf("arguments are modified: %v, %v", g, from)
	}
}
