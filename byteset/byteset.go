// Package byteset is layer 3: sets of bytes. See shared/doc/03-byteset.md.
package byteset

import (
	"cmp"
	"math/bits"
	"slices"

	"configlang/api"
)

// wordBits is the number of bytes that one element of a set stands for.
const wordBits = 64

// Of returns the set of the bytes from lo to hi.
func Of(lo, hi byte) api.Bytes {
	return And(below(int(hi)+1), Not(below(int(lo))))
}

// Has reports whether s contains b.
func Has(s api.Bytes, b byte) bool {
	return s[b/wordBits]>>(b%wordBits)&1 == 1
}

// Or returns the union.
func Or(a, b api.Bytes) api.Bytes {
	for i := range len(a) {
		a[i] |= b[i]
	}
	return a
}

// And returns the intersection.
func And(a, b api.Bytes) api.Bytes {
	for i := range len(a) {
		a[i] &= b[i]
	}
	return a
}

// Not returns the complement.
func Not(a api.Bytes) api.Bytes {
	for i := range len(a) {
		a[i] = ^a[i]
	}
	return a
}

// Len returns the number of elements.
func Len(a api.Bytes) int {
	n := 0
	for _, w := range a {
		n += bits.OnesCount64(w)
	}
	return n
}

// Least returns the least element, if there is one.
func Least(a api.Bytes) (byte, bool) {
	for i, w := range a {
		if w != 0 {
			return byte(i*wordBits + bits.TrailingZeros64(w)), true
		}
	}
	return 0, false
}

// Ranges returns the maximal ranges of consecutive elements, in ascending order.
func Ranges(a api.Bytes) [][2]byte {
	var l [][2]byte
	inside := false
	for i := range 256 {
		b := byte(i)
		has := Has(a, b)
		if has && inside {
			l[len(l)-1][1] = b
		} else if has {
			l = append(l, [2]byte{b, b})
		}
		inside = has
	}
	return l
}

// Partition returns the coarsest partition of all bytes of which each set of l is a union of parts.
func Partition(l []api.Bytes) []api.Bytes {
	parts := []api.Bytes{Of(0, 255)}
	for _, s := range l {
		parts = split(parts, s)
	}
	slices.SortFunc(parts, func(a, b api.Bytes) int {
		x, _ := Least(a)
		y, _ := Least(b)
		return cmp.Compare(x, y)
	})
	return parts
}

// split divides each part into what s contains of it and what it does not, and leaves out what is empty.
func split(parts []api.Bytes, s api.Bytes) []api.Bytes {
	outside := Not(s)
	for i := range len(parts) {
		in, out := And(parts[i], s), And(parts[i], outside)
		if in == (api.Bytes{}) || out == (api.Bytes{}) {
			continue
		}
		parts[i] = in
		parts = append(parts, out)
	}
	return parts
}

// below returns the set of the bytes that are less than n.
func below(n int) api.Bytes {
	var s api.Bytes
	for i := range len(s) {
		// Shifts by 64 and more give 0, so that a full element is ^0.
		s[i] = 1<<uint(min(max(n-i*wordBits, 0), wordBits)) - 1
	}
	return s
}
