package conflict

import (
	"cmp"
	"math/bits"
	"slices"

	"configlang/api"
	"configlang/refine"
	"configlang/unify"
	"configlang/value"
)

// set is a set of constraints: bit i stands for constraint i.
type set uint

// every returns the set of n constraints.
func every(n int) set {
	return 1<<n - 1
}

// contains reports whether a set contains all constraints of another one.
func (s set) contains(t set) bool {
	return t&^s == 0
}

// indices returns the constraints of a set.
func (s set) indices() []int {
	var l []int
	for i := range bits.Len(uint(s)) {
		if s.contains(1 << i) {
			l = append(l, i)
		}
	}
	return l
}

// search returns the minimal conflicts and the maximal consistent sets among valid constraints.
func search(l []api.Val) (conflicts, maximal []set, e api.Errno) {
	if slices.ContainsFunc(l, func(v api.Val) bool { return !refine.Valid(v) }) {
		return nil, nil, api.ErrKind
	}
	if len(l) > api.MaxParts {
		return nil, nil, api.ErrSize
	}
	consistent := consistency(l)
	all := every(len(l))
	// Each set comes behind all sets that contain it. So one that is examined, and consistent, is in no larger consistent set; and one that is not contains a conflict that is not found yet.
	for i := range all + 1 {
		s := all - i
		if slices.ContainsFunc(maximal, func(m set) bool { return m.contains(s) }) || slices.ContainsFunc(conflicts, s.contains) {
			continue
		}
		if consistent(s) {
			maximal = append(maximal, s)
		} else {
			conflicts = append(conflicts, reduced(s, consistent))
		}
	}
	return conflicts, maximal, api.OK
}

// consistency returns a function that reports whether sets of constraints have a greatest lower bound other than bottom.
func consistency(l []api.Val) func(set) bool {
	bounds := map[set]api.Value{0: value.Top().V} // those that are known, as many sets begin alike
	var bound func(set) api.Value
	bound = func(s set) api.Value {
		if low, known := bounds[s]; known {
			return low
		}
		last := bits.Len(uint(s)) - 1
		low := bound(s &^ (1 << last))
		if !value.IsBottom(low) {
			low, _ = unify.Meet(low, l[last].V)
		}
		bounds[s] = low
		return low
	}
	return func(s set) bool { return !value.IsBottom(bound(s)) }
}

// reduced returns a minimal conflict in a set that is not consistent. The last constraints are tried first, as the bounds of those in front of them are known.
func reduced(s set, consistent func(set) bool) set {
	for i := range api.MaxParts {
		without := s &^ (1 << (api.MaxParts - 1 - i))
		if !consistent(without) {
			s = without
		}
	}
	return s
}

// listed returns sets as lists of indices, by size, and lexicographically.
func listed(sets []set) [][]int {
	var l [][]int
	for _, s := range sets {
		l = append(l, s.indices())
	}
	slices.SortFunc(l, func(a, b []int) int { return cmp.Or(cmp.Compare(len(a), len(b)), slices.Compare(a, b)) })
	return l
}
