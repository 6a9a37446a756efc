package fixed_test

import (
	"math"
	"math/big"
	"strings"
	"testing"

	"configlang/api"
	"configlang/fixed"
)

// samples returns numbers around all limits, valid and not, and numbers of all sizes between them.
func samples() []int64 {
	l := []int64{0, 1, 2, 3, 7, 99, 100, 101, 2500, 5000, 9999, 10000, 10001, 15000, 20000, 30000, 40000, 123456789, 316227766,
		99999999999, 100000000000, api.MaxUnits / 2, api.MaxUnits - 10000, api.MaxUnits - 1, api.MaxUnits, api.MaxUnits + 1, 1 << 62, math.MaxInt64}
	x := uint64(1)
	for i := range 40 {
		x = x*6364136223846793005 + 1442695040888963407
		l = append(l, int64(x%api.MaxUnits)>>uint(i))
	}
	for _, u := range l {
		l = append(l, -u)
	}
	return append(l, math.MinInt64)
}

// valid is the definition of a valid number, apart from the package.
func valid(u int64) bool {
	return u >= -1000000000000000 && u <= 1000000000000000
}

// TestValid checks Valid, Whole and Floor (P1.1).
func TestValid(t *testing.T) {
	for _, u := range samples() {
		whole := valid(u) && u%10000 == 0
		if fixed.Valid(u) != valid(u) || fixed.Whole(u) != whole {
			t.Errorf("%d: Valid %v, Whole %v", u, fixed.Valid(u), fixed.Whole(u))
		}
		f := fixed.Floor(u)
		if !valid(u) {
			if f != 0 {
				t.Errorf("Floor(%d): %d, want 0", u, f)
			}
			continue
		}
		if !fixed.Whole(f) || f > u || u-f >= 10000 {
			t.Errorf("Floor(%d): %d", u, f)
		}
	}
	for u, want := range map[int64]int64{0: 0, 1: 0, 9999: 0, 10000: 10000, -1: -10000, -10000: -10000, -10001: -20000, api.MaxUnits: api.MaxUnits, -api.MaxUnits: -api.MaxUnits, -api.MaxUnits - 1: 0, math.MinInt64: 0} {
		if got := fixed.Floor(u); got != want {
			t.Errorf("Floor(%d): %d, want %d", u, got, want)
		}
	}
}

// exactly returns the units of the ratio a / b, by arithmetic without limits.
func exactly(a, b *big.Int) (int64, api.Errno) {
	q, rest := new(big.Int).QuoRem(a, b, new(big.Int))
	if rest.Sign() != 0 {
		return 0, api.ErrExact
	}
	if q.CmpAbs(big.NewInt(api.MaxUnits)) > 0 {
		return 0, api.ErrRange
	}
	return q.Int64(), api.OK
}

// expected returns what an operation must return.
func expected(op string, u, v int64) (int64, api.Errno) {
	if !valid(u) || !valid(v) {
		return 0, api.ErrRange
	}
	if v == 0 && (op == "Div" || op == "Mod") {
		return 0, api.ErrZero
	}
	a, b, unit, one := big.NewInt(u), big.NewInt(v), big.NewInt(10000), big.NewInt(1)
	switch op {
	case "Add":
		return exactly(a.Add(a, b), one)
	case "Sub":
		return exactly(a.Sub(a, b), one)
	case "Mul":
		return exactly(a.Mul(a, b), unit)
	case "Div":
		return exactly(a.Mul(a, unit), b)
	}
	// big.Int.Mod is never negative: for a negative v it is too great by -v.
	r := new(big.Int).Mod(a, b)
	if v < 0 && r.Sign() != 0 {
		r.Add(r, b)
	}
	return exactly(r, one)
}

// TestArithmetic compares the operations with arithmetic without limits (P1.2).
func TestArithmetic(t *testing.T) {
	ops := map[string]func(u, v int64) (int64, api.Errno){"Add": fixed.Add, "Sub": fixed.Sub, "Mul": fixed.Mul, "Div": fixed.Div, "Mod": fixed.Mod}
	l := samples()
	for name, op := range ops {
		for _, u := range l {
			for _, v := range l {
				want, wantE := expected(name, u, v)
				if got, e := op(u, v); got != want || e != wantE {
					t.Fatalf("%s(%d, %d): %d, %d, want %d, %d", name, u, v, got, e, want, wantE)
				}
			}
		}
	}
}

// TestArithmeticExamples checks the examples of the chapter, and which error comes first (P1.2).
func TestArithmeticExamples(t *testing.T) {
	for _, c := range []struct {
		name string
		op   func(u, v int64) (int64, api.Errno)
		u, v int64
		want int64
		e    api.Errno
	}{
		{"Mul", fixed.Mul, 15000, 20000, 30000, api.OK},
		{"Mul", fixed.Mul, 1, 1, 0, api.ErrExact},
		{"Mul", fixed.Mul, api.MaxUnits - 1, api.MaxUnits - 1, 0, api.ErrExact},
		{"Mul", fixed.Mul, api.MaxUnits, -api.MaxUnits, 0, api.ErrRange},
		{"Mul", fixed.Mul, api.MaxUnits, -10000, -api.MaxUnits, api.OK},
		{"Mul", fixed.Mul, math.MinInt64, 0, 0, api.ErrRange},
		{"Div", fixed.Div, 10000, 30000, 0, api.ErrExact},
		{"Div", fixed.Div, api.MaxUnits, 1, 0, api.ErrRange},
		{"Div", fixed.Div, api.MaxUnits, 7, 0, api.ErrExact},
		{"Div", fixed.Div, math.MinInt64, 0, 0, api.ErrRange},
		{"Div", fixed.Div, 0, 0, 0, api.ErrZero},
		{"Div", fixed.Div, -30000, -20000, 15000, api.OK},
		{"Mod", fixed.Mod, -10000, 30000, 20000, api.OK},
		{"Mod", fixed.Mod, 25000, 10000, 5000, api.OK},
		{"Mod", fixed.Mod, 0, api.MaxUnits + 1, 0, api.ErrRange},
		{"Mod", fixed.Mod, api.MaxUnits + 1, 0, 0, api.ErrRange},
		{"Mod", fixed.Mod, 7, 0, 0, api.ErrZero},
	} {
		if got, e := c.op(c.u, c.v); got != c.want || e != c.e {
			t.Errorf("%s(%d, %d): %d, %d, want %d, %d", c.name, c.u, c.v, got, e, c.want, c.e)
		}
	}
}

// TestText checks Text, and that Parse undoes it (P1.3).
func TestText(t *testing.T) {
	for u, want := range map[int64]string{0: "0", 1: "0.0001", -1: "-0.0001", 10: "0.001", 15000: "1.5", -15000: "-1.5", 10100: "1.01", 10000: "1", 120000: "12", -99999: "-9.9999",
		api.MaxUnits: "100000000000", -api.MaxUnits: "-100000000000", api.MaxUnits - 1: "99999999999.9999", api.MaxUnits + 1: "?", -api.MaxUnits - 1: "?", math.MinInt64: "?"} {
		if got := fixed.Text(u); got != want {
			t.Errorf("Text(%d): %s, want %s", u, got, want)
		}
	}
	for _, u := range samples() {
		n, e := fixed.Parse(fixed.Text(u))
		if valid(u) && (n != u || e != api.OK) || !valid(u) && (n != 0 || e != api.ErrSyntax) {
			t.Errorf("Parse(%s): %d, %d, want %d", fixed.Text(u), n, e, u)
		}
	}
}

// TestParse checks that Parse accepts no other form of a number (P1.3).
func TestParse(t *testing.T) {
	for _, s := range []string{"", "-", ".", "-.", "?", "0.0", "-0", "-0.0", "00", "01", "1.50", "1.0", "1.", ".5", "-.5", "+1", "--1", "-+1", "+-1", "1-", "1.-5", "1.+5", "- 1", " 1", "1 ", "1\n", "1,5", "1.2.3", "1.00001", "1.00010",
		"1_0", "0x1", "1e3", "Inf", "NaN", "100000000001", "100000000000.0001", "-100000000000.0001", "9223372036854775808", "--922337203685477.5808", "99999999999999999999999999999999", "\xd9\xa1", "1\x00", strings.Repeat("0", 100000)} {
		if n, e := fixed.Parse(s); n != 0 || e != api.ErrSyntax {
			t.Errorf("Parse(%q): %d, %d, want ErrSyntax", s, n, e)
		}
	}
}

// TestLaws checks the laws of the operations (P1.4).
func TestLaws(t *testing.T) {
	l := samples()
	for _, u := range l {
		for _, v := range l {
			sum, e := fixed.Add(u, v)
			if other, e2 := fixed.Add(v, u); other != sum || e2 != e {
				t.Fatalf("Add is not commutative: %d and %d", u, v)
			}
			if back, e2 := fixed.Sub(sum, v); e == api.OK && (back != u || e2 != api.OK) {
				t.Fatalf("Sub does not undo Add: %d and %d", u, v)
			}
			product, e := fixed.Mul(u, v)
			if other, e2 := fixed.Mul(v, u); other != product || e2 != e {
				t.Fatalf("Mul is not commutative: %d and %d", u, v)
			}
			if back, e2 := fixed.Div(product, v); e == api.OK && v != 0 && (back != u || e2 != api.OK) {
				t.Fatalf("Div does not undo Mul: %d and %d", u, v)
			}
			r, e := fixed.Mod(u, v)
			if e == api.OK && (v > 0 && (r < 0 || r >= v) || v < 0 && (r > 0 || r <= v)) {
				t.Fatalf("Mod(%d, %d): %d", u, v, r)
			}
		}
	}
}

// TestAssociative checks that sums and products can be formed in any order (P1.4).
func TestAssociative(t *testing.T) {
	for name, op := range map[string]func(u, v int64) (int64, api.Errno){"Add": fixed.Add, "Mul": fixed.Mul} {
		l := samples()
		for _, u := range l {
			for i, v := range l {
				w := l[(i*7+3)%len(l)]
				a, e1 := op(u, v)
				b, e2 := op(v, w)
				left, e3 := op(a, w)
				right, e4 := op(u, b)
				if e1|e2|e3|e4 == api.OK && left != right {
					t.Fatalf("%s is not associative: %d, %d, %d", name, u, v, w)
				}
			}
		}
	}
}
