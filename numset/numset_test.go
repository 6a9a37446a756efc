package numset_test

import (
	"math"
	"slices"
	"testing"

	"configlang/api"
	"configlang/numset"
)

// whole is the greatest integer.
const whole = api.MaxUnits / api.Unit

// random returns numbers that are the same in each run.
type random uint64

func (x *random) below(n int) int {
	*x = *x*6364136223846793005 + 1442695040888963407
	return int(uint64(*x)>>33) % n
}

// spans returns a list of spans with these ends.
func spans(ends ...int64) []api.Span {
	var l []api.Span
	for i := 0; i < len(ends); i += 2 {
		l = append(l, api.Span{Lo: ends[i], Hi: ends[i+1]})
	}
	return l
}

// nums returns a set with spans of both kinds.
func nums(ints, fracs []api.Span) api.Nums { return api.Nums{Ints: ints, Fracs: fracs} }

// same reports whether two sets have the same spans.
func same(a, b api.Nums) bool { return slices.Equal(a.Ints, b.Ints) && slices.Equal(a.Fracs, b.Fracs) }

// has is the definition of Has.
func has(s api.Nums, u int64) bool {
	if u < -api.MaxUnits || u > api.MaxUnits {
		return false
	}
	l := s.Fracs
	if u%api.Unit == 0 {
		l, u = s.Ints, u/api.Unit
	}
	for _, x := range l {
		if x.Lo <= u && u <= x.Hi {
			return true
		}
	}
	return false
}

// some returns a set, most often not valid, whose spans have ends near to a few numbers or to the limits.
func some(x *random) api.Nums {
	var s api.Nums
	near := []int64{0, 0, 10000, 20000, -10000, -20000, 30000, 5, -5}
	end := func(limit int64, points []int64) int64 {
		if x.below(12) == 0 {
			return []int64{-limit, limit, -limit - 1, limit + 1, math.MinInt64, math.MaxInt64, 1 - limit, limit - 1}[x.below(8)]
		}
		return points[x.below(len(points))] + int64(x.below(5)-2)
	}
	for range x.below(4) {
		s.Ints = append(s.Ints, api.Span{Lo: end(whole, []int64{0, 1, -3}), Hi: end(whole, []int64{0, 2, 3})})
	}
	for range x.below(5) {
		s.Fracs = append(s.Fracs, api.Span{Lo: end(api.MaxUnits, near), Hi: end(api.MaxUnits, near)})
	}
	return s
}

// points returns numbers near to all ends that some gives.
func points() []int64 {
	var l []int64
	for _, c := range []int64{-api.MaxUnits, -60000, -50000, -40000, -30000, -20000, -10000, 0, 10000, 20000, 30000, 40000, 50000, 60000, api.MaxUnits, -123456789, 123456789, -700000000000} {
		for d := int64(-9); d <= 9; d++ {
			l = append(l, c+d)
		}
	}
	return l
}

// TestMake checks the valid representations of sets (P8.1).
func TestMake(t *testing.T) {
	const min, max = math.MinInt64, math.MaxInt64
	for _, c := range []struct{ s, want api.Nums }{
		{nums(nil, nil), nums(nil, nil)}, {nums(spans(2, 2, 1, 1), nil), nums(spans(1, 2), nil)}, {nums(spans(1, 1, 3, 3), nil), nums(spans(1, 1, 3, 3), nil)}, {nums(spans(3, 2, 5, 4), nil), nums(nil, nil)}, {nums(spans(1, 9, 3, 4, 9, 12), nil), nums(spans(1, 12), nil)}, {nums(spans(5, 6, 1, 7, 8, 8), nil), nums(spans(1, 8), nil)},
		{nums(nil, spans(0, 10000, 10000, 20000)), nums(nil, spans(1, 19999))}, {nums(nil, spans(1, 9999, 10001, 10001)), nums(nil, spans(1, 10001))}, {nums(nil, spans(1, 9998, 10001, 10001)), nums(nil, spans(1, 9998, 10001, 10001))}, {nums(nil, spans(1, 9999, 10002, 10002)), nums(nil, spans(1, 9999, 10002, 10002))}, {nums(nil, spans(1, 3, 5, 6)), nums(nil, spans(1, 3, 5, 6))}, {nums(nil, spans(1, 3, 4, 6)), nums(nil, spans(1, 6))},
		{nums(nil, spans(10000, 10000)), nums(nil, nil)}, {nums(nil, spans(0, 0, -10000, -10000)), nums(nil, nil)}, {nums(nil, spans(-10000, 0)), nums(nil, spans(-9999, -1))}, {nums(nil, spans(-1, -1, 1, 1)), nums(nil, spans(-1, 1))}, {nums(nil, spans(2, 1, 7, -7)), nums(nil, nil)}, {nums(nil, spans(20000, 20001, -5, 3)), nums(nil, spans(-5, 3, 20001, 20001))},
		{nums(spans(min, max), spans(min, max)), numset.All()}, {nums(spans(whole+1, max), spans(api.MaxUnits, max)), nums(nil, nil)}, {nums(spans(min, -whole), spans(min, 1-api.MaxUnits)), nums(spans(-whole, -whole), spans(1-api.MaxUnits, 1-api.MaxUnits))}, {nums(spans(max, min), spans(max, min)), nums(nil, nil)}, {nums(spans(max, max, min, min), spans(max, max, min, min)), nums(nil, nil)},
	} {
		if got := numset.Make(c.s); !same(got, c.want) || !numset.Valid(got) {
			t.Errorf("Make(%v): %v, want %v", c.s, got, c.want)
		}
	}
	x := random(1)
	for range 3000 {
		s := some(&x)
		made := numset.Make(s)
		if !wellFormed(made) || !numset.Valid(made) || !same(numset.Make(made), made) {
			t.Fatalf("Make(%v): %v", s, made)
		}
		for _, u := range points() {
			if has(made, u) != has(s, u) || numset.Has(s, u) != has(s, u) {
				t.Fatalf("%d in Make(%v): %v", u, s, made)
			}
		}
	}
}

// wellFormed is the definition of a valid set.
func wellFormed(s api.Nums) bool {
	for i, x := range s.Ints {
		if x.Lo > x.Hi || x.Lo < -whole || x.Hi > whole || i > 0 && x.Lo < s.Ints[i-1].Hi+2 {
			return false
		}
	}
	for i, x := range s.Fracs {
		if x.Lo > x.Hi || x.Lo < -api.MaxUnits || x.Hi > api.MaxUnits || x.Lo%api.Unit == 0 || x.Hi%api.Unit == 0 {
			return false
		}
		if i > 0 {
			gap := s.Fracs[i-1].Hi + 1
			if gap%api.Unit == 0 {
				gap++
			}
			if x.Lo <= gap {
				return false
			}
		}
	}
	return true
}

// TestValid compares Valid with the definition (P8.1).
func TestValid(t *testing.T) {
	for _, s := range []api.Nums{nums(spans(2, 1), nil), nums(spans(1, 1, 2, 2), nil), nums(spans(3, 3, 1, 1), nil), nums(spans(1, 3, 3, 5), nil), nums(spans(1, 5, 2, 3), nil), nums(spans(0, whole+1), nil), nums(spans(-whole-1, 0), nil), nums(nil, spans(0, 1)), nums(nil, spans(1, 10000)), nums(nil, spans(2, 1)), nums(nil, spans(1, 1, 2, 2)), nums(nil, spans(-1, -1, 1, 1)), nums(nil, spans(9999, 9999, 10001, 10001)), nums(nil, spans(3, 3, 1, 1)), nums(nil, spans(1, api.MaxUnits)), nums(nil, spans(1, api.MaxUnits+1)), nums(nil, spans(-api.MaxUnits-1, 1)), nums(spans(1, 1, 1, 1), nil), nums(nil, spans(1, 5, 5, 7)), nums(spans(math.MinInt64, math.MaxInt64), nil)} {
		if numset.Valid(s) || wellFormed(s) {
			t.Errorf("%v is not valid", s)
		}
	}
	for _, s := range []api.Nums{{}, nums(spans(1, 1, 3, 3), nil), nums(spans(-whole, whole), spans(1-api.MaxUnits, api.MaxUnits-1)), nums(nil, spans(9999, 9999, 10002, 10002)), nums(nil, spans(9998, 9998, 10001, 10001)), nums(nil, spans(1, 1, 3, 3)), nums([]api.Span{}, []api.Span{})} {
		if !numset.Valid(s) {
			t.Errorf("%v is valid", s)
		}
	}
	x := random(2)
	for range 20000 {
		if s := some(&x); numset.Valid(s) != wellFormed(s) {
			t.Fatalf("Valid(%v)", s)
		}
	}
}

// TestAll checks the sets of all numbers and of all whole ones (P8.1).
func TestAll(t *testing.T) {
	if s := numset.All(); !same(s, nums(spans(-whole, whole), spans(1-api.MaxUnits, api.MaxUnits-1))) {
		t.Errorf("All: %v", s)
	}
	if s := numset.Ints(); !same(s, nums(spans(-whole, whole), nil)) {
		t.Errorf("Ints: %v", s)
	}
	for _, u := range []int64{-api.MaxUnits, 0, 1, -10000, api.MaxUnits, api.MaxUnits - 1} {
		if !numset.Has(numset.All(), u) || numset.Has(numset.Ints(), u) != (u%10000 == 0) {
			t.Errorf("Has of %d", u)
		}
	}
	wide := nums(spans(math.MinInt64, math.MaxInt64), spans(math.MinInt64, math.MaxInt64))
	for _, u := range []int64{api.MaxUnits + 1, -api.MaxUnits - 1, api.MaxUnits + 10000, -api.MaxUnits - 10000, math.MinInt64, math.MaxInt64} {
		if numset.Has(wide, u) || numset.Has(numset.All(), u) {
			t.Errorf("Has of %d, which is not valid", u)
		}
	}
	if numset.Has(nums(nil, spans(0, 10000)), 0) || numset.Has(nums(nil, spans(0, 10000)), 10000) || numset.Has(nums(spans(1, 1), nil), 1) || !numset.Has(nums(spans(1, 1), nil), 10000) || !numset.Has(nums(nil, spans(5, 2, -3, 7)), 7) {
		t.Error("spans stand for numbers of one kind")
	}
}

// TestOperations compares the operations with the elements of their operands (P8.2).
func TestOperations(t *testing.T) {
	x := random(3)
	for range 2000 {
		a, b := some(&x), some(&x)
		and, or, not, minus := numset.And(a, b), numset.Or(a, b), numset.Not(a), numset.Minus(a, b)
		if !wellFormed(and) || !wellFormed(or) || !wellFormed(not) || !wellFormed(minus) {
			t.Fatalf("operations with %v and %v", a, b)
		}
		subset := true
		for _, u := range points() {
			p, q, valid := has(a, u), has(b, u), -api.MaxUnits <= u && u <= api.MaxUnits
			if has(and, u) != (p && q) || has(or, u) != (p || q) || has(not, u) != (valid && !p) || has(minus, u) != (p && !q) {
				t.Fatalf("%d and the operations with %v and %v", u, a, b)
			}
			subset = subset && (!p || q)
		}
		if numset.Subset(a, b) != subset {
			t.Fatalf("Subset(%v, %v)", a, b)
		}
	}
}

// TestAlgebra checks that equal sets have equal representations, by the laws of a Boolean algebra (P8.5).
func TestAlgebra(t *testing.T) {
	x := random(4)
	and, or, not := numset.And, numset.Or, numset.Not
	for range 1500 {
		a, b, c := numset.Make(some(&x)), some(&x), some(&x)
		if !same(and(a, a), a) || !same(or(a, a), a) || !same(not(not(a)), a) || !same(or(a, not(a)), numset.All()) || !same(and(a, not(a)), api.Nums{}) || !same(or(a, and(a, b)), a) || !same(and(a, or(a, b)), a) || !same(numset.Minus(a, b), and(a, not(b))) {
			t.Fatalf("laws of %v and %v", a, b)
		}
		if !same(and(a, b), and(b, a)) || !same(or(a, b), or(b, a)) || !same(not(or(a, b)), and(not(a), not(b))) || !same(and(a, or(b, c)), or(and(a, b), and(a, c))) || !same(or(a, and(b, c)), and(or(a, b), or(a, c))) || !same(or(or(a, b), c), or(a, or(b, c))) || !same(and(and(a, b), c), and(a, and(b, c))) {
			t.Fatalf("laws of %v, %v and %v", a, b, c)
		}
		if numset.Subset(a, b) != same(and(a, b), a) || !numset.Subset(and(a, b), b) || !numset.Subset(b, or(a, b)) {
			t.Fatalf("the order of %v and %v", a, b)
		}
		if numset.Count(or(a, b))+numset.Count(and(a, b)) != numset.Count(a)+numset.Count(b) {
			t.Fatalf("the numbers of elements of %v and %v", a, b)
		}
		if !numset.Subset(b, a) && numset.Compare(a, or(a, b)) != 1 {
			t.Fatalf("Compare of %v and its union with %v", a, b)
		}
	}
}

// TestBound checks each operator against its definition (P8.3).
func TestBound(t *testing.T) {
	bounds := []int64{-api.MaxUnits, 1 - api.MaxUnits, -20000, -19999, -10001, -10000, -9999, -1, 0, 1, 9999, 10000, 10001, 15000, api.MaxUnits - 1, api.MaxUnits}
	for op, holds := range map[string]func(x, u int64) bool{
		"<": func(x, u int64) bool { return x < u }, "<=": func(x, u int64) bool { return x <= u }, ">": func(x, u int64) bool { return x > u }, ">=": func(x, u int64) bool { return x >= u }, "==": func(x, u int64) bool { return x == u }, "!=": func(x, u int64) bool { return x != u },
	} {
		for _, u := range bounds {
			s, e := numset.Bound(op, u)
			if e != api.OK || !wellFormed(s) {
				t.Fatalf("Bound(%s, %d): %v, %d", op, u, s, e)
			}
			for _, x := range append(points(), bounds...) {
				if valid := -api.MaxUnits <= x && x <= api.MaxUnits; has(s, x) != (valid && holds(x, u)) {
					t.Fatalf("%d in Bound(%s, %d): %v", x, op, u, s)
				}
			}
		}
		for _, u := range []int64{api.MaxUnits + 1, -api.MaxUnits - 1, math.MinInt64, math.MaxInt64} {
			if s, e := numset.Bound(op, u); e != api.ErrRange || !same(s, api.Nums{}) {
				t.Errorf("Bound(%s, %d): %v, %d", op, u, s, e)
			}
		}
	}
	for _, op := range []string{"", "=", "<>", "=<", "=~", "!~", "< ", "!", "===", "<<"} {
		for _, u := range []int64{0, api.MaxUnits + 1} {
			if s, e := numset.Bound(op, u); e != api.ErrSyntax || !same(s, api.Nums{}) {
				t.Errorf("Bound(%q, %d): %v, %d", op, u, s, e)
			}
		}
	}
	s, _ := numset.Bound("<", 15000)
	if s = numset.And(s, numset.Ints()); !numset.Has(s, 10000) || !numset.Has(s, 0) || numset.Has(s, 20000) {
		t.Errorf("the whole numbers below 1.5: %v", s)
	}
}

// less is the definition of the nearer number.
func less(u, v int64) bool {
	a, b := max(u, -u), max(v, -v)
	return a < b || a == b && u > v
}

// TestLeast checks the nearest number, and the only one (P8.4).
func TestLeast(t *testing.T) {
	for _, c := range []struct {
		s      api.Nums
		least  int64
		found  bool
		count  int64
		single bool
	}{
		{nums(nil, nil), 0, false, 0, false}, {nums(spans(1, 0), spans(10000, 10000)), 0, false, 0, false}, {numset.All(), 0, true, 2*api.MaxUnits + 1, false}, {numset.Ints(), 0, true, 2*whole + 1, false}, {numset.Not(numset.Ints()), 1, true, 2*api.MaxUnits - 2*whole, false},
		{nums(spans(-3, -1), nil), -10000, true, 3, false}, {nums(spans(0, 0), nil), 0, true, 1, true}, {nums(spans(5, 5, 5, 5), nil), 50000, true, 1, true}, {nums(nil, spans(-7, -7)), -7, true, 1, true}, {nums(nil, spans(-1, 0)), -1, true, 1, true}, {nums(nil, spans(-1, 1)), 1, true, 2, false}, {nums(nil, spans(-1, 10000)), 1, true, 10000, false}, {nums(nil, spans(-5, -3, 3, 4)), 3, true, 5, false}, {nums(nil, spans(-5, -2, 3, 4)), -2, true, 6, false},
		{nums(spans(-2, -2, 2, 2), nil), 20000, true, 2, false}, {nums(spans(1, 1), spans(9999, 9999)), 9999, true, 2, false}, {nums(spans(-1, -1), spans(10001, 10001)), -10000, true, 2, false}, {nums(spans(1, 1), spans(-9999, -9999)), -9999, true, 2, false}, {nums(nil, spans(5000, 25000)), 5000, true, 19999, false}, {nums(nil, spans(-25000, -5000)), -5000, true, 19999, false}, {nums(nil, spans(-15000, 15000)), 1, true, 29998, false},
		{nums(spans(math.MinInt64, -whole), nil), -api.MaxUnits, true, 1, true}, {nums(spans(whole, math.MaxInt64), nil), api.MaxUnits, true, 1, true}, {nums(nil, spans(api.MaxUnits-1, math.MaxInt64)), api.MaxUnits - 1, true, 1, true}, {nums(spans(1, 1), spans(1, 1)), 1, true, 2, false},
	} {
		if u, ok := numset.Least(c.s); u != c.least || ok != c.found {
			t.Errorf("Least(%v): %d, %v, want %d, %v", c.s, u, ok, c.least, c.found)
		}
		if n := numset.Count(c.s); n != c.count {
			t.Errorf("Count(%v): %d, want %d", c.s, n, c.count)
		}
		want := int64(0)
		if c.single {
			want = c.least
		}
		if u, ok := numset.Single(c.s); u != want || ok != c.single {
			t.Errorf("Single(%v): %d, %v", c.s, u, ok)
		}
	}
}

// TestCount compares Count and Least with the elements, which are looked at one by one (P8.4).
func TestCount(t *testing.T) {
	x := random(5)
	window := nums(spans(-4, 4), spans(-40000, 40000))
	for range 150 {
		s := numset.And(some(&x), window)
		n, least, found := int64(0), int64(0), false
		for u := int64(-40000); u <= 40000; u++ {
			if has(s, u) {
				n++
				if !found || less(u, least) {
					least, found = u, true
				}
			}
		}
		if numset.Count(s) != n {
			t.Fatalf("Count(%v): %d, want %d", s, numset.Count(s), n)
		}
		if u, ok := numset.Least(s); u != least || ok != found {
			t.Fatalf("Least(%v): %d, %v, want %d, %v", s, u, ok, least, found)
		}
	}
}

// TestCompare checks the order of sets against its definition (P8.4).
func TestCompare(t *testing.T) {
	x := random(6)
	l := []api.Nums{{}, numset.All(), numset.Ints(), nums(spans(-1, -1), nil), nums(spans(1, 1), nil), nums(nil, spans(-1, -1)), nums(nil, spans(1, 1)), nums(spans(0, 0), nil)}
	for range 60 {
		l = append(l, some(&x))
	}
	ps := points()
	slices.SortFunc(ps, func(u, v int64) int {
		switch {
		case less(u, v):
			return -1
		case less(v, u):
			return 1
		}
		return 0
	})
	for _, a := range l {
		for _, b := range l {
			want := 0
			for _, u := range ps {
				if has(a, u) != has(b, u) {
					want = 1
					if has(a, u) {
						want = -1
					}
					break
				}
			}
			if got := numset.Compare(a, b); got != want {
				t.Fatalf("Compare(%v, %v): %d, want %d", a, b, got, want)
			}
			c := l[x.below(len(l))]
			if numset.Compare(a, b) <= 0 && numset.Compare(b, c) <= 0 && numset.Compare(a, c) > 0 {
				t.Fatalf("the order of %v, %v and %v", a, b, c)
			}
		}
	}
	if numset.Compare(api.Nums{}, numset.All()) != 1 || numset.Compare(nums(spans(1, 1), nil), nums(spans(-1, -1), nil)) != -1 || numset.Compare(nums(nil, spans(0, 10000, 10000, 20000)), nums(nil, spans(1, 19999))) != 0 {
		t.Error("Compare of sets that are looked at one by one")
	}
}

// TestMemory checks that arguments are not changed, and share no memory with results.
func TestMemory(t *testing.T) {
	fresh := func() api.Nums { return nums(spans(5, 7, 1, 2, 9, 3), spans(0, 10000, 5, 6)) }
	s, valid := fresh(), numset.Make(fresh())
	results := []api.Nums{numset.Make(s), numset.Or(s, s), numset.And(s, s), numset.Minus(s, nums(nil, nil)), numset.Not(s), numset.Make(valid), numset.Or(valid, api.Nums{}), numset.Or(api.Nums{}, valid)}
	for _, r := range results {
		for _, l := range [][]api.Span{r.Ints, r.Fracs} {
			for i := range l {
				l[i] = api.Span{Lo: 77, Hi: 77}
			}
		}
	}
	numset.Valid(s)
	numset.Count(s)
	numset.Compare(s, valid)
	if !same(s, fresh()) || !same(valid, numset.Make(fresh())) {
		t.Errorf("an argument is changed: %v, %v", s, valid)
	}
	numset.All().Ints[0].Lo = 5
	numset.Ints().Ints[0].Lo = 5
	if numset.All().Ints[0].Lo != -whole || numset.Ints().Ints[0].Lo != -whole {
		t.Error("a result is kept")
	}
}
