package subsume_test

import (
	"slices"
	"testing"

	"configlang/api"
	"configlang/automaton"
	"configlang/lang"
	"configlang/trial"
	"configlang/value"
)

// spot is what may be at a label, and what cases say about it. Sets of numbers and of cases are given by their bits.
type spot struct {
	in      int   // the numbers that may be there
	lacking bool  // whether the label may be lacking
	out     []int // for each case the numbers that violate it
	must    int   // the cases that a lacking label violates
}

// covered reports whether all of k cases are violated by some choice at each spot.
func covered(spots []spot, k int) bool {
	reached := map[int]bool{0: true} // the sets of cases that can be violated
	for _, s := range spots {
		next := map[int]bool{}
		for before := range reached {
			if s.lacking {
				next[before|s.must] = true
			}
			for d := range numbers {
				if s.in>>d&1 == 0 {
					continue
				}
				after := before
				for n, out := range s.out {
					after |= out >> d & 1 << n
				}
				next[after] = true
			}
		}
		reached = next
	}
	return reached[1<<k-1]
}

// numbers is how many numbers there are.
const numbers = 8

// numbered returns the value of a set of numbers.
func numbered(set int) api.Value {
	v := bottom
	for d := range numbers {
		if set>>d&1 == 1 {
			v = trial.Union(v, trial.Number(int64(d)))
		}
	}
	return v
}

// labelled returns the struct case in which the labels a, b and so on have the values of a list; some are optional.
func labelled(l []api.Value, optional func(spot int) bool, others api.Val) api.StructCase {
	var c api.StructCase
	set := automaton.All()
	for p, v := range l {
		label := string(rune('a' + p))
		word := automaton.Word(label)
		set = lang.Minus(set, word)
		if optional(p) {
			c.Classes = append(c.Classes, api.Class{Set: word, Val: plain(v)})
		} else {
			c.Fields = append(c.Fields, present(label, v))
		}
	}
	c.Classes = append(c.Classes, api.Class{Set: set, Val: others})
	return c
}

// checkCover checks Includes for the struct and for the k cases that some spots describe, and also for lists if no label may be lacking.
func checkCover(t *testing.T, spots []spot, k int) bool {
	t.Helper()
	want := !covered(spots, k)
	var own []api.Value
	for _, s := range spots {
		own = append(own, numbered(s.in))
	}
	whole := record(labelled(own, func(p int) bool { return spots[p].lacking }, value.Bottom()))
	var structs, lists api.Value
	for n := range k {
		var l []api.Value
		for _, s := range spots {
			l = append(l, numbered((1<<numbers-1)&^s.out[n]))
		}
		structs.Structs = append(structs.Structs, labelled(l, func(p int) bool { return spots[p].must>>n&1 == 0 }, value.Top()))
		lists.Lists = append(lists.Lists, longer(top, l...))
	}
	if got := includes(t, made(structs), made(whole)); got != want {
		t.Fatalf("%v: %v", spots, got)
	}
	if !slices.ContainsFunc(spots, func(s spot) bool { return s.lacking }) {
		if got := includes(t, made(lists), made(list(closed(own...)))); got != want {
			t.Fatalf("lists, %v: %v", spots, got)
		}
	}
	return want
}

// change changes one thing in a spot at random.
func change(x *trial.Random, s spot) spot {
	s.out = slices.Clone(s.out)
	switch x.Below(4) {
	case 0:
		s.in = max(1, s.in^1<<x.Below(numbers))
	case 1:
		s.lacking = !s.lacking
	case 2:
		s.must ^= 1 << x.Below(len(s.out))
	case 3:
		s.out[x.Below(len(s.out))] ^= 1 << x.Below(numbers)
	}
	return s
}

// TestCover checks cases that are violated by some numbers, at labels of which many are alike, or almost (P21.1).
func TestCover(t *testing.T) {
	x := trial.Random(218)
	yes, no := 0, 0
	for range 3000 {
		k := 4 + x.Below(5)
		first := spot{in: 1 + x.Below(1<<numbers-1), lacking: x.Below(3) == 0, out: make([]int, k), must: x.Below(1<<k) & x.Below(1<<k)}
		for d := range numbers {
			for range 1 + x.Below(3) {
				first.out[x.Below(k)] |= 1 << d
			}
		}
		spots := []spot{first}
		for range 1 + x.Below(4) {
			next := trial.Pick(&x, spots...)
			for range x.Below(4) / 2 {
				next = change(&x, next)
			}
			spots = append(spots, next)
		}
		if checkCover(t, spots, k) {
			yes++
		} else {
			no++
		}
	}
	if yes < 700 || no < 700 {
		t.Errorf("%d include, %d do not", yes, no)
	}
}

// TestAlike checks spots of which one differs from those that have been tried in what has been decided there, or in whether a case requires a label (P21.1).
func TestAlike(t *testing.T) {
	four, eight := []int{69, 24, 226, 60}, []int{72, 16, 2, 3, 38, 129, 160, 40}
	for i, spots := range [][]spot{
		{{119, false, four, 2}, {119, false, four, 2}},
		{{231, true, eight, 34}, {231, true, eight, 35}, {231, false, eight, 35}},
	} {
		if checkCover(t, spots, len(spots[0].out)) {
			t.Errorf("case %d", i)
		}
	}
}

// TestMatching checks cases that are violated by a number of their own, where the first case can be at its first label only if there is no place for others (P21.1).
func TestMatching(t *testing.T) {
	x := trial.Random(219)
	const k = 5
	yes, no := 0, 0
	for range 2000 {
		at := [k][]int{{0, 1}, {0, 2}, {0, 2}, {1, 3, 4}, {1, 3, 4}}
		if x.Below(3) == 0 {
			at[3+x.Below(2)] = []int{1, 3}
		}
		order := []int{0, 1, 2, 3, 4}
		for i := range order {
			j := i + x.Below(k-i)
			order[i], order[j] = order[j], order[i]
		}
		spots := make([]spot, k)
		for p := range spots {
			s := spot{in: 1 << k, out: make([]int, k)}
			for n := range k {
				s.out[n] = 1 << n
			}
			spots[p] = s
		}
		for n, l := range at {
			for _, p := range l {
				spots[order[p]].in |= 1 << n
			}
		}
		if x.Below(4) == 0 {
			spots[x.Below(k)].in &= 1<<k | x.Below(1<<k)
		}
		// The number 0 may be replaced by a label that is lacking.
		if x.Below(2) == 0 {
			for p := range spots {
				spots[p].lacking, spots[p].in = spots[p].in&1 == 1, spots[p].in&^1
				spots[p].must = 1
			}
		}
		if checkCover(t, spots, k) {
			yes++
		} else {
			no++
		}
	}
	if yes < 100 || no < 1000 {
		t.Errorf("%d include, %d do not", yes, no)
	}
}
