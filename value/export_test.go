package value

import "configlang/api"

// Exact reports whether each string is accepted by exactly one table. With little room it is decided by vectors.
func Exact(tables [][]api.State, room int) bool {
	var m machines
	for _, t := range tables {
		if len(t) > 0 {
			m.add(t)
		}
	}
	return m.exact(room)
}

// Enough is room with which no vectors are needed for the tables of the tests.
const Enough = 1 << 40

// Inverse returns the number whose product with x is 1 modulo Prime.
func Inverse(x uint64) uint64 {
	return inverse(x)
}

// Prime is the number modulo which vectors are calculated.
const Prime = prime
