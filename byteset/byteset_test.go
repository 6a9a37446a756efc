package byteset_test

import (
	"testing"

	"configlang/api"
	"configlang/byteset"
)

// samples returns sets of different kinds.
func samples() []api.Bytes {
	l := []api.Bytes{{}, byteset.Of(0, 255), byteset.Of(0, 0), byteset.Of(255, 255), byteset.Of(63, 64), byteset.Of(64, 127), byteset.Of('a', 'z'), {1 << 63, 1, 1 << 63, 1}, {0x5555555555555555, 0, ^uint64(0), 0xff00ff00ff00ff00}}
	x := uint64(7)
	for range 12 {
		var s api.Bytes
		for i := range len(s) {
			x = x*6364136223846793005 + 1442695040888963407
			s[i] = x & (x >> 17)
		}
		l = append(l, s)
	}
	return l
}

// TestOf checks all ranges of bytes (P3.1).
func TestOf(t *testing.T) {
	for lo := range 256 {
		for hi := range 256 {
			s := byteset.Of(byte(lo), byte(hi))
			var want api.Bytes
			for b := lo; b <= hi; b++ {
				want[b/64] |= 1 << (b % 64)
			}
			if s != want {
				t.Fatalf("Of(%d, %d): %x, want %x", lo, hi, s, want)
			}
		}
	}
}

// TestHas checks that a set of one byte contains this byte alone (P3.1).
func TestHas(t *testing.T) {
	for b := range 256 {
		for c := range 256 {
			if byteset.Has(byteset.Of(byte(b), byte(b)), byte(c)) != (b == c) {
				t.Fatalf("Has of %d in the set of %d", c, b)
			}
		}
	}
	for b := range 256 {
		if byteset.Has(api.Bytes{}, byte(b)) || !byteset.Has(byteset.Of(0, 255), byte(b)) {
			t.Fatalf("Has of %d in the empty and the full set", b)
		}
	}
}

// TestOperations compares the operations with the elements of their operands (P3.2).
func TestOperations(t *testing.T) {
	for _, a := range samples() {
		n, least, found := 0, byte(0), false
		for i := range 256 {
			b := byte(i)
			if byteset.Has(byteset.Not(a), b) == byteset.Has(a, b) {
				t.Fatalf("byte %d of the complement of %x", b, a)
			}
			if byteset.Has(a, b) {
				if n++; !found {
					least, found = b, true
				}
			}
			for _, c := range samples() {
				x, y := byteset.Has(a, b), byteset.Has(c, b)
				if byteset.Has(byteset.Or(a, c), b) != (x || y) || byteset.Has(byteset.And(a, c), b) != (x && y) {
					t.Fatalf("byte %d of the union and the intersection of %x and %x", b, a, c)
				}
			}
		}
		if byteset.Len(a) != n {
			t.Errorf("Len(%x): %d, want %d", a, byteset.Len(a), n)
		}
		if b, ok := byteset.Least(a); b != least || ok != found {
			t.Errorf("Least(%x): %d, %v, want %d, %v", a, b, ok, least, found)
		}
	}
}

// TestRanges checks that ranges are maximal, ascending, and make up the set (P3.3, P3.5).
func TestRanges(t *testing.T) {
	if l := byteset.Ranges(api.Bytes{}); len(l) != 0 {
		t.Errorf("ranges of the empty set: %v", l)
	}
	if l := byteset.Ranges(byteset.Of(0, 255)); len(l) != 1 || l[0] != [2]byte{0, 255} {
		t.Errorf("ranges of the full set: %v", l)
	}
	if l := byteset.Ranges(byteset.Or(byteset.Of('a', 'c'), byteset.Of('d', 'd'))); len(l) != 1 || l[0] != [2]byte{'a', 'd'} {
		t.Errorf("ranges that touch: %v", l)
	}
	if l := byteset.Ranges(byteset.Not(byteset.Of(64, 64))); len(l) != 2 || l[0] != [2]byte{0, 63} || l[1] != [2]byte{65, 255} {
		t.Errorf("ranges with a gap: %v", l)
	}
	for _, a := range samples() {
		var all api.Bytes
		last := -2
		for _, r := range byteset.Ranges(a) {
			if int(r[0]) <= last+1 || r[1] < r[0] {
				t.Errorf("ranges of %x: %v", a, byteset.Ranges(a))
			}
			last = int(r[1])
			all = byteset.Or(all, byteset.Of(r[0], r[1]))
		}
		if all != a {
			t.Errorf("the ranges of %x make up %x", a, all)
		}
	}
}

// checkPartition checks the definition of Partition for each pair of bytes.
func checkPartition(t *testing.T, l []api.Bytes) {
	t.Helper()
	parts := byteset.Partition(l)
	part := [256]int{}
	last, total := -1, 0
	for i, p := range parts {
		least, ok := byteset.Least(p)
		if !ok || int(least) <= last {
			t.Fatalf("part %d of %x is empty or not in order", i, l)
		}
		last, total = int(least), total+byteset.Len(p)
		for b := range 256 {
			if byteset.Has(p, byte(b)) {
				part[b] = i
			}
		}
	}
	if total != 256 {
		t.Fatalf("the parts of %x have %d bytes", l, total)
	}
	for b := range 256 {
		for c := range b {
			same := true
			for _, s := range l {
				same = same && byteset.Has(s, byte(b)) == byteset.Has(s, byte(c))
			}
			if same != (part[b] == part[c]) {
				t.Fatalf("bytes %d and %d in the partition of %x", c, b, l)
			}
		}
	}
}

// TestPartition checks partitions of none, of one and of many sets (P3.4).
func TestPartition(t *testing.T) {
	if p := byteset.Partition(nil); len(p) != 1 || p[0] != byteset.Of(0, 255) {
		t.Errorf("the partition of no sets: %x", p)
	}
	if p := byteset.Partition([]api.Bytes{{}, byteset.Of(0, 255)}); len(p) != 1 || p[0] != byteset.Of(0, 255) {
		t.Errorf("the partition of the empty and the full set: %x", p)
	}
	if p := byteset.Partition([]api.Bytes{byteset.Of(9, 9), byteset.Of(9, 9)}); len(p) != 2 || p[0] != byteset.Not(byteset.Of(9, 9)) || p[1] != byteset.Of(9, 9) {
		t.Errorf("the partition of a set twice: %x", p)
	}
	checkPartition(t, nil)
	l := samples()
	for i, a := range l {
		checkPartition(t, []api.Bytes{a})
		checkPartition(t, []api.Bytes{a, l[(i+5)%len(l)], l[(i+9)%len(l)]})
	}
	checkPartition(t, l)
	var single []api.Bytes
	for b := range 256 {
		single = append(single, byteset.Of(byte(255-b), byte(255-b)))
	}
	if p := byteset.Partition(single); len(p) != 256 || p[0] != byteset.Of(0, 0) || p[255] != byteset.Of(255, 255) {
		t.Errorf("the partition into single bytes has %d parts", len(p))
	}
}

// TestPartitionKeepsArgument checks that Partition does not modify its argument (P3.4).
func TestPartitionKeepsArgument(t *testing.T) {
	l, same := samples(), samples()
	byteset.Partition(l)
	for i := range l {
		if l[i] != same[i] {
			t.Errorf("set %d is modified", i)
		}
	}
}

// TestAlgebra checks the laws of a Boolean algebra (P3.5).
func TestAlgebra(t *testing.T) {
	or, and, not := byteset.Or, byteset.And, byteset.Not
	full := byteset.Of(0, 255)
	for _, a := range samples() {
		if or(a, not(a)) != full || and(a, not(a)) != (api.Bytes{}) || not(not(a)) != a || or(a, api.Bytes{}) != a || and(a, full) != a {
			t.Fatalf("the complement of %x", a)
		}
		for _, b := range samples() {
			if or(a, b) != or(b, a) || and(a, b) != and(b, a) || or(a, and(a, b)) != a || and(a, or(a, b)) != a || not(or(a, b)) != and(not(a), not(b)) {
				t.Fatalf("laws of %x and %x", a, b)
			}
			for _, c := range samples() {
				if and(a, or(b, c)) != or(and(a, b), and(a, c)) || or(a, and(b, c)) != and(or(a, b), or(a, c)) || or(a, or(b, c)) != or(or(a, b), c) || and(a, and(b, c)) != and(and(a, b), c) {
					t.Fatalf("laws of %x, %x and %x", a, b, c)
				}
			}
		}
	}
}
