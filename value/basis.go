package value

// prime is the number modulo which vectors are calculated; the product of two elements is less than 2^62.
const prime = 1<<31 - 1

// basis is vectors of which none is a combination of the others. Each is found by the index of its first element that is not 0, which is 1.
type basis map[int][]uint64

// add adds a vector, which it changes, unless it is a combination of those that there are, and reports whether it has done so.
func (b basis) add(v []uint64) bool {
	for i, x := range v {
		if x == 0 {
			continue
		}
		row, ok := b[i]
		if !ok {
			scale(v[i:], inverse(x))
			b[i] = v
			return true
		}
		subtract(v[i:], row[i:], x)
	}
	return false
}

// scale multiplies a vector by x.
func scale(v []uint64, x uint64) {
	for i := range v {
		v[i] = v[i] * x % prime
	}
}

// subtract subtracts x times w from v.
func subtract(v, w []uint64, x uint64) {
	for i := range v {
		v[i] = (v[i] + (prime-w[i])*x) % prime
	}
}

// inverse returns the number whose product with x, which is not 0, is 1: by Fermat's theorem the power of x with the exponent prime - 2.
func inverse(x uint64) uint64 {
	power := uint64(1)
	for e := prime - 2; e > 0; e /= 2 {
		if e%2 == 1 {
			power = power * x % prime
		}
		x = x * x % prime
	}
	return power
}
