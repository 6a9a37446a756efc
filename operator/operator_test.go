package operator_test

import (
	"math"
	"math/big"
	"reflect"
	"slices"
	"strings"
	"testing"

	"configlang/api"
	"configlang/data"
	"configlang/operator"
)

// Data of each kind.
func null() api.Data              { return api.Data{Kind: api.Null} }
func boolean(n int64) api.Data    { return api.Data{Kind: api.Bool, Num: n} }
func number(u int64) api.Data     { return api.Data{Kind: api.Number, Num: u} }
func text(s string) api.Data      { return api.Data{Kind: api.String, Str: s} }
func list(l ...api.Data) api.Data { return api.Data{Kind: api.List, Items: l} }
func object(l ...api.Member) api.Data {
	return api.Data{Kind: api.Struct, Members: l}
}

// truth returns the data of a truth value.
func truth(b bool) api.Data {
	if b {
		return boolean(1)
	}
	return boolean(0)
}

// samples returns valid data of each kind.
func samples() []api.Data {
	l := []api.Data{null(), boolean(0), boolean(1)}
	for _, u := range []int64{0, 1, -1, 10000, -10000, 15000, 30000, -30000, 3, api.MaxUnits, -api.MaxUnits, api.MaxUnits - 1, 999999999} {
		l = append(l, number(u))
	}
	for _, s := range []string{"", "a", "ab", "b", "B", "\xff", "\x00", "null"} {
		l = append(l, text(s))
	}
	return append(l, list(), list(null()), list(number(1), text("a")), list(list(list())), object(), object(api.Member{Label: "a", Data: list(boolean(1))}), object(api.Member{Data: null()}, api.Member{Label: "b", Data: number(1)}))
}

// deep returns a list with n levels.
func deep(n int) api.Data {
	d := list()
	for range n - 1 {
		d = list(d)
	}
	return d
}

// invalid returns data that is not valid with its error.
func invalid() map[api.Errno]api.Data {
	return map[api.Errno]api.Data{api.ErrKind: {}, api.ErrRange: boolean(2), api.ErrTwice: object(api.Member{}, api.Member{}), api.ErrDepth: deep(17)}
}

// TestExamples checks the examples of the chapter.
func TestExamples(t *testing.T) {
	for _, c := range []struct {
		op         string
		a, b, want api.Data
		e          api.Errno
	}{
		{"+", number(10000), number(20000), number(30000), api.OK},
		{"+", text("a"), text("b"), text("ab"), api.OK},
		{"/", number(10000), number(30000), api.Data{}, api.ErrExact},
	} {
		if d, e := operator.Binary(c.op, c.a, c.b); !reflect.DeepEqual(d, c.want) || e != c.e {
			t.Errorf("%v %s %v: %v, %d", c.a, c.op, c.b, d, e)
		}
	}
}

// TestUnary checks all operators on all kinds of data (P30.1).
func TestUnary(t *testing.T) {
	for _, op := range []string{"-", "!", "+", "", "--", "not", "!=", "- "} {
		for _, a := range samples() {
			want, errno := api.Data{}, api.ErrKind
			switch {
			case op != "-" && op != "!":
				errno = api.ErrSyntax
			case op == "-" && a.Kind == api.Number:
				want, errno = number(-a.Num), api.OK
			case op == "!" && a.Kind == api.Bool:
				want, errno = boolean(1-a.Num), api.OK
			}
			if d, e := operator.Unary(op, a); !reflect.DeepEqual(d, want) || e != errno {
				t.Errorf("%s %v: %v, %d, want %v, %d", op, a, d, e, want, errno)
			}
		}
		for want, a := range invalid() {
			if d, e := operator.Unary(op, a); e != want || !reflect.DeepEqual(d, api.Data{}) {
				t.Errorf("%s of invalid data: %v, %d, want %d", op, d, e, want)
			}
		}
	}
}

// quotient returns the greatest whole number that is not greater than u / v.
func quotient(u, v *big.Int) *big.Int {
	q, r := new(big.Int).QuoRem(u, v, new(big.Int))
	if r.Sign() != 0 && r.Sign() != v.Sign() {
		q.Sub(q, big.NewInt(1))
	}
	return q
}

// calculate returns the result of an operator on numbers: computed with large numbers.
func calculate(op string, a, b int64) (api.Data, api.Errno) {
	u, v, unit := big.NewInt(a), big.NewInt(b), big.NewInt(api.Unit)
	n, rest := new(big.Int), new(big.Int)
	switch op {
	case "+":
		n.Add(u, v)
	case "-":
		n.Sub(u, v)
	case "*":
		n.QuoRem(n.Mul(u, v), unit, rest)
	case "/", "%":
		if b == 0 {
			return api.Data{}, api.ErrZero
		}
		if op == "%" {
			n.Sub(u, n.Mul(v, quotient(u, v)))
		} else {
			n.QuoRem(n.Mul(u, unit), v, rest)
		}
	}
	switch {
	case rest.Sign() != 0:
		return api.Data{}, api.ErrExact
	case new(big.Int).Abs(n).Cmp(big.NewInt(api.MaxUnits)) > 0:
		return api.Data{}, api.ErrRange
	}
	return number(n.Int64()), api.OK
}

// compare compares numbers or strings: -1, 0 or 1.
func compare(a, b api.Data) int {
	if a.Kind == api.Number {
		return big.NewInt(a.Num).Cmp(big.NewInt(b.Num))
	}
	return slices.Compare([]byte(a.Str), []byte(b.Str))
}

// expected is the definition of Binary for valid data.
func expected(op string, a, b api.Data) (api.Data, api.Errno) {
	both := func(kind int) bool { return a.Kind == kind && b.Kind == kind }
	ordered := both(api.Number) || both(api.String)
	switch {
	case !slices.Contains([]string{"+", "-", "*", "/", "%", "==", "!=", "<", "<=", ">", ">=", "&&", "||"}, op):
		return api.Data{}, api.ErrSyntax
	case op == "==":
		return truth(reflect.DeepEqual(a, b)), api.OK
	case op == "!=":
		return truth(!reflect.DeepEqual(a, b)), api.OK
	case op == "<" && ordered:
		return truth(compare(a, b) < 0), api.OK
	case op == "<=" && ordered:
		return truth(compare(a, b) <= 0), api.OK
	case op == ">" && ordered:
		return truth(compare(a, b) > 0), api.OK
	case op == ">=" && ordered:
		return truth(compare(a, b) >= 0), api.OK
	case op == "&&" && both(api.Bool):
		return truth(a.Num == 1 && b.Num == 1), api.OK
	case op == "||" && both(api.Bool):
		return truth(a.Num == 1 || b.Num == 1), api.OK
	case op == "+" && both(api.String):
		return text(a.Str + b.Str), api.OK
	case op == "+" && both(api.List):
		return list(append(append([]api.Data(nil), a.Items...), b.Items...)...), api.OK
	case strings.Contains("+-*/%", op) && both(api.Number):
		return calculate(op, a.Num, b.Num)
	}
	return api.Data{}, api.ErrKind
}

// TestBinary compares all operators on all pairs of samples with their definition (P30.2).
func TestBinary(t *testing.T) {
	for _, op := range []string{"+", "-", "*", "/", "%", "==", "!=", "<", "<=", ">", ">=", "&&", "||", "", "=", "&", "|", "=~", "!~", "!", "<>", "+ ", "and"} {
		for _, a := range samples() {
			for _, b := range samples() {
				want, errno := expected(op, a, b)
				if d, e := operator.Binary(op, a, b); !reflect.DeepEqual(d, want) || e != errno {
					t.Errorf("%v %s %v: %v, %d, want %v, %d", a, op, b, d, e, want, errno)
				}
			}
		}
		for want, bad := range invalid() {
			for _, good := range samples() {
				if d, e := operator.Binary(op, bad, good); e != want || !reflect.DeepEqual(d, api.Data{}) {
					t.Errorf("invalid %s %v: %v, %d, want %d", op, good, d, e, want)
				}
				if d, e := operator.Binary(op, good, bad); e != want || !reflect.DeepEqual(d, api.Data{}) {
					t.Errorf("%v %s invalid: %v, %d, want %d", good, op, d, e, want)
				}
			}
			for other, b := range invalid() {
				if _, e := operator.Binary(op, bad, b); e != want {
					t.Errorf("invalid %s invalid: %d, want %d and not %d", op, e, want, other)
				}
			}
		}
	}
	for _, n := range []int64{math.MaxInt64, math.MinInt64, api.MaxUnits + 1} {
		if _, e := operator.Binary("-", number(n), number(0)); e != api.ErrRange {
			t.Errorf("%d - 0: %d", n, e)
		}
	}
}

// TestSizes checks results that are as long as is permitted, and longer (P30.2).
func TestSizes(t *testing.T) {
	long := func(n int) api.Data { return text(strings.Repeat("x", n)) }
	many := func(n int) api.Data { return list(slices.Repeat([]api.Data{null()}, n)...) }
	for _, c := range []struct {
		a, b api.Data
		e    api.Errno
	}{
		{long(api.MaxText), long(0), api.OK}, {long(40000), long(api.MaxText - 40000), api.OK}, {long(api.MaxText), long(1), api.ErrSize}, {long(0), long(api.MaxText + 1), api.ErrSize}, {long(1 << 20), long(1 << 20), api.ErrSize},
		{many(1000), many(0), api.OK}, {many(1), many(999), api.OK}, {many(1000), many(1), api.ErrSize}, {many(0), many(1001), api.ErrSize}, {many(5000), long(1 << 20), api.ErrKind},
		{deep(16), deep(16), api.OK},
	} {
		d, e := operator.Binary("+", c.a, c.b)
		if e != c.e || e == api.OK && (len(d.Str) != len(c.a.Str)+len(c.b.Str) || len(d.Items) != len(c.a.Items)+len(c.b.Items) || data.Check(d) != api.OK) {
			t.Errorf("%d bytes, %d items: %d, want %d", len(d.Str), len(d.Items), e, c.e)
		}
	}
	// Other operators have no limit.
	if d, e := operator.Binary("==", long(1<<20), long(1<<20)); e != api.OK || d.Num != 1 {
		t.Errorf("equal long strings: %v, %d", d, e)
	}
	// A list that is the result shares no memory with the operands.
	a, b := list(list(null())), list(object(api.Member{Label: "a", Data: list(null())}))
	d, _ := operator.Binary("+", a, b)
	d.Items[0].Items[0] = text("x")
	d.Items[1].Members[0].Data.Items[0] = text("x")
	d.Items[1].Members[0].Label = "b"
	if !reflect.DeepEqual(a, list(list(null()))) || !reflect.DeepEqual(b, list(object(api.Member{Label: "a", Data: list(null())}))) {
		t.Error("the concatenation shares memory with its parts")
	}
}

// TestPlain checks the texts of scalars (P30.3).
func TestPlain(t *testing.T) {
	for _, c := range []struct {
		d    api.Data
		want string
		e    api.Errno
	}{
		{text(""), "", api.OK}, {text("a\"\n\xff"), "a\"\n\xff", api.OK}, {number(15000), "1.5", api.OK}, {number(-1), "-0.0001", api.OK}, {number(0), "0", api.OK}, {boolean(0), "false", api.OK}, {boolean(1), "true", api.OK},
		{null(), "", api.ErrKind}, {list(), "", api.ErrKind}, {list(text("a")), "", api.ErrKind}, {object(), "", api.ErrKind},
		{api.Data{}, "", api.ErrKind}, {boolean(2), "", api.ErrRange}, {number(math.MinInt64), "", api.ErrRange}, {deep(17), "", api.ErrDepth}, {object(api.Member{}, api.Member{}), "", api.ErrTwice}, {api.Data{Kind: api.String, Num: 1, Str: "a"}, "", api.ErrKind},
	} {
		if s, e := operator.Plain(c.d); s != c.want || e != c.e {
			t.Errorf("Plain(%v): %q, %d, want %q, %d", c.d, s, e, c.want, c.e)
		}
	}
}

// TestLaws checks that exactly one comparison holds, and the laws of De Morgan (P30.4).
func TestLaws(t *testing.T) {
	yes := func(op string, a, b api.Data) bool {
		d, e := operator.Binary(op, a, b)
		if e != api.OK {
			t.Errorf("%v %s %v: %d", a, op, b, e)
		}
		return d.Num == 1
	}
	for _, a := range samples() {
		for _, b := range samples() {
			if a.Kind != b.Kind || a.Kind != api.Number && a.Kind != api.String {
				continue
			}
			n := 0
			for _, op := range []string{"<", "==", ">"} {
				if yes(op, a, b) {
					n++
				}
			}
			if n != 1 || yes("<=", a, b) == yes(">", a, b) || yes(">=", a, b) == yes("<", a, b) || yes("!=", a, b) == yes("==", a, b) {
				t.Errorf("%v and %v: %d comparisons hold", a, b, n)
			}
		}
	}
	not := func(a api.Data) api.Data {
		d, _ := operator.Unary("!", a)
		return d
	}
	for _, a := range []api.Data{boolean(0), boolean(1)} {
		for _, b := range []api.Data{boolean(0), boolean(1)} {
			if yes("&&", a, b) == yes("||", not(a), not(b)) || yes("||", a, b) == yes("&&", not(a), not(b)) {
				t.Errorf("De Morgan: %v, %v", a, b)
			}
		}
	}
}
