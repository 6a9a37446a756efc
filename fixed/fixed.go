// Package fixed is layer 1: numbers with four decimal places, represented by their units. See shared/doc/01-fixed.md.
package fixed

import (
	"math/bits"
	"strconv"
	"strings"

	"configlang/api"
)

// places is the number of decimal places of a unit.
const places = 4

// Valid reports whether u is the units of a number.
func Valid(u int64) bool {
	return -api.MaxUnits <= u && u <= api.MaxUnits
}

// Whole reports whether u is the units of a whole number.
func Whole(u int64) bool {
	return Valid(u) && u%api.Unit == 0
}

// Add returns the sum.
func Add(u, v int64) (int64, api.Errno) {
	if !Valid(u) || !Valid(v) {
		return 0, api.ErrRange
	}
	return ranged(u + v)
}

// Sub returns the difference.
func Sub(u, v int64) (int64, api.Errno) {
	if !Valid(u) || !Valid(v) {
		return 0, api.ErrRange
	}
	return ranged(u - v)
}

// Mul returns the product, if it is a multiple of one unit.
func Mul(u, v int64) (int64, api.Errno) {
	if !Valid(u) || !Valid(v) {
		return 0, api.ErrRange
	}
	m, e := scale(size(u), size(v), api.Unit)
	return signed(m, u, v), e
}

// Div returns the quotient, if it is a multiple of one unit.
func Div(u, v int64) (int64, api.Errno) {
	if !Valid(u) || !Valid(v) {
		return 0, api.ErrRange
	}
	if v == 0 {
		return 0, api.ErrZero
	}
	m, e := scale(size(u), api.Unit, size(v))
	return signed(m, u, v), e
}

// Mod returns the remainder of the division that rounds down: it has the sign of v.
func Mod(u, v int64) (int64, api.Errno) {
	if !Valid(u) || !Valid(v) {
		return 0, api.ErrRange
	}
	if v == 0 {
		return 0, api.ErrZero
	}
	return remainder(u, v), api.OK
}

// Floor returns the units of the greatest whole number that is not greater than u.
func Floor(u int64) int64 {
	if !Valid(u) {
		return 0
	}
	return u - remainder(u, api.Unit)
}

// Text returns the number in decimal.
func Text(u int64) string {
	var b strings.Builder
	switch {
	case !Valid(u):
		return "?"
	case u < 0:
		b.WriteByte('-')
		u = -u
		fallthrough
	default:
		b.WriteString(strconv.FormatInt(u/api.Unit, 10))
		b.WriteString(fraction(u % api.Unit))
	}
	return b.String()
}

// Parse returns the units of the number whose Text is s.
func Parse(s string) (int64, api.Errno) {
	// read accepts more than one form of a number: only that of Text is permitted.
	u, ok := read(s)
	if !ok || Text(u) != s {
		return 0, api.ErrSyntax
	}
	return u, api.OK
}

// ranged returns u, if it is valid.
func ranged(u int64) (int64, api.Errno) {
	if !Valid(u) {
		return 0, api.ErrRange
	}
	return u, api.OK
}

// size returns the absolute value of a valid number.
func size(u int64) uint64 {
	if u < 0 {
		u = -u
	}
	return uint64(u)
}

// signed returns m with the sign of the product (or quotient) of u and v.
func signed(m, u, v int64) int64 {
	switch {
	case u < 0 && v < 0:
		return m
	case u < 0, v < 0:
		m = -m
		fallthrough
	default:
		return m
	}
}

// scale returns a * b / d, where d is not 0, if it is exact and valid.
func scale(a, b, d uint64) (int64, api.Errno) {
	q, rest := divide(product(a, b), d)
	if rest != 0 {
		return 0, api.ErrExact
	}
	if q[0] != 0 || q[1] > api.MaxUnits {
		return 0, api.ErrRange
	}
	return int64(q[1]), api.OK
}

// product returns the high and the low half of a * b, which may need more than 64 bits.
func product(a, b uint64) [2]uint64 {
	hi, lo := bits.Mul64(a, b)
	return [2]uint64{hi, lo}
}

// divide returns the quotient p / d and the remainder, where d is not 0.
func divide(p [2]uint64, d uint64) ([2]uint64, uint64) {
	hi, carry := p[0]/d, p[0]%d
	lo, rest := bits.Div64(carry, p[1], d)
	return [2]uint64{hi, lo}, rest
}

// remainder returns u - v * q, where q is the quotient u / v, rounded down.
func remainder(u, v int64) int64 {
	r := u % v
	if r != 0 && (r < 0) != (v < 0) {
		r += v
	}
	return r
}

// fraction returns the point and the decimal places of a number from 0 to 1, without zeros at the end.
func fraction(u int64) string {
	if u == 0 {
		return ""
	}
	// The digit 1 of api.Unit keeps the leading zeros of u.
	digits := strconv.FormatInt(api.Unit+u, 10)[1:]
	return "." + strings.TrimRight(digits, "0")
}

// read returns the units that s denotes, if s consists of a sign and of digits with at most four decimal places.
func read(s string) (int64, bool) {
	unsigned, minus := strings.CutPrefix(s, "-")
	whole, part, _ := strings.Cut(unsigned, ".")
	if len(part) > places {
		return 0, false
	}
	part += strings.Repeat("0", places-len(part))
	u, err := strconv.ParseInt(whole+part, 10, 64)
	if err != nil {
		return 0, false
	}
	if minus {
		u = -u
	}
	return u, true
}
