package scalar_test

import (
	"cmp"
	"reflect"
	"slices"
	"testing"

	"configlang/api"
	"configlang/automaton"
	"configlang/data"
	"configlang/lang"
	"configlang/numset"
	"configlang/scalar"
)

// random returns numbers that are the same in each run.
type random uint64

func (x *random) below(n int) int {
	*x = *x*6364136223846793005 + 1442695040888963407
	return int(uint64(*x)>>33) % n
}

func number(u int64) api.Data { return api.Data{Kind: api.Number, Num: u} }

func text(s string) api.Data { return api.Data{Kind: api.String, Str: s} }

var (
	null = api.Data{Kind: api.Null}
	no   = api.Data{Kind: api.Bool}
	yes  = api.Data{Kind: api.Bool, Num: 1}
)

// universe is some scalars in the order of Least; the random sets differ only in these, and in ranges between them.
func universe() []api.Data {
	l := []api.Data{null, no, yes}
	for _, u := range []int64{0, 1, -1, 9999, 10000, -10000, 15000, -15000, 20000, -20000, 25000, 30000, 50000, -50000, 99999, 100000, api.MaxUnits - 1, -api.MaxUnits + 1, api.MaxUnits, -api.MaxUnits} {
		l = append(l, number(u))
	}
	for _, s := range []string{"", "\x00", "a", "b", "\xff", "\x00\x00", "aa", "ab", "b\x00", "ba", "bb", "abc", "bbb"} {
		l = append(l, text(s))
	}
	return l
}

// some returns a random valid set.
func some(x *random) api.Scalars {
	s := api.Scalars{Null: x.below(2) == 0, False: x.below(2) == 0, True: x.below(2) == 0}
	if x.below(4) == 0 {
		s = api.Scalars{}
	}
	for range x.below(4) {
		lo := int64(x.below(12) - 6)
		s.Nums.Ints = append(s.Nums.Ints, api.Span{Lo: lo, Hi: lo + int64(x.below(4))})
		s.Nums.Fracs = append(s.Nums.Fracs, api.Span{Lo: lo * 10000, Hi: (lo + int64(x.below(4))) * 10000})
	}
	s.Nums = numset.Make(s.Nums)
	for range x.below(4) {
		w, _ := lang.Bound([]string{"<", "<=", ">", ">=", "==", "!="}[x.below(6)], []string{"", "a", "ab", "b", "bb"}[x.below(5)])
		if x.below(2) == 0 {
			s.Strs = lang.Or(s.Strs, w)
		} else {
			s.Strs = lang.Minus(s.Strs, w)
		}
	}
	return s
}

// sets returns random sets, and those of one scalar, of a type and of a bound.
func sets(x *random, n int) []api.Scalars {
	l := []api.Scalars{{}, scalar.All()}
	for _, d := range universe() {
		one, _ := scalar.Of(d)
		l = append(l, one)
	}
	for _, name := range []string{"null", "bool", "int", "number", "string"} {
		s, _ := scalar.Type(name)
		l = append(l, s)
	}
	for range n {
		l = append(l, some(x))
	}
	return l
}

// invalid are sets that are not valid, although parts of them are.
func invalid() []api.Scalars {
	return []api.Scalars{
		{Null: true, False: true, True: true, Nums: numset.All(), Strs: api.Lang{States: []api.State{{}}}},
		{Null: true, False: true, True: true, Strs: automaton.All(), Nums: api.Nums{Ints: []api.Span{{Lo: 1, Hi: 0}}}},
		{Null: true, Strs: automaton.All(), Nums: api.Nums{Ints: []api.Span{{Lo: 0, Hi: 1}, {Lo: 2, Hi: 3}}}},
		{Strs: automaton.Word("a"), Nums: api.Nums{Fracs: []api.Span{{Lo: 0, Hi: 1}}}},
		{Strs: automaton.Word("a"), Nums: api.Nums{Ints: []api.Span{{Lo: api.MaxUnits, Hi: api.MaxUnits}}}},
		{True: true, Nums: numset.Ints(), Strs: api.Lang{States: []api.State{{Accept: true, Edges: []api.Edge{{Lo: 0, Hi: 255, To: 7}}}}}},
	}
}

// same reports whether two valid sets are represented alike.
func same(a, b api.Scalars) bool {
	return a.Null == b.Null && a.False == b.False && a.True == b.True && slices.Equal(a.Nums.Ints, b.Nums.Ints) && slices.Equal(a.Nums.Fracs, b.Nums.Fracs) && automaton.Same(a.Strs, b.Strs)
}

// has reports whether a valid set contains a scalar: the definition.
func has(s api.Scalars, d api.Data) bool {
	switch {
	case d.Kind == api.Null:
		return s.Null
	case d.Kind == api.Bool && d.Num == 0:
		return s.False
	case d.Kind == api.Bool:
		return s.True
	case d.Kind == api.Number:
		return numset.Has(s.Nums, d.Num)
	}
	return automaton.Accepts(s.Strs, d.Str)
}

// clone returns a copy of a set.
func clone(s api.Scalars) api.Scalars {
	s.Nums = api.Nums{Ints: slices.Clone(s.Nums.Ints), Fracs: slices.Clone(s.Nums.Fracs)}
	s.Strs.States = slices.Clone(s.Strs.States)
	for i := range s.Strs.States {
		s.Strs.States[i].Edges = slices.Clone(s.Strs.States[i].Edges)
	}
	return s
}

// overwrite changes all memory that a set refers to.
func overwrite(s api.Scalars) {
	for _, l := range [][]api.Span{s.Nums.Ints, s.Nums.Fracs} {
		for i := range l {
			l[i] = api.Span{Lo: 77, Hi: 66}
		}
	}
	for i := range s.Strs.States {
		for j := range s.Strs.States[i].Edges {
			s.Strs.States[i].Edges[j] = api.Edge{Lo: 9, Hi: 8, To: -7}
		}
		s.Strs.States[i] = api.State{}
	}
}

// TestExamples checks the examples of the chapter.
func TestExamples(t *testing.T) {
	above, e := scalar.Bound(">", number(50000))
	ints, e2 := scalar.Type("int")
	if e != api.OK || e2 != api.OK {
		t.Fatal(e, e2)
	}
	if d, ok := scalar.Least(scalar.And(above, ints)); !ok || !data.Equal(d, number(60000)) {
		t.Errorf("Least: %v, %v", d, ok)
	}
	if s, e := scalar.Bound("<", yes); e != api.ErrKind || !reflect.DeepEqual(s, api.Scalars{}) {
		t.Errorf("Bound(<, true): %v, %d", s, e)
	}
	if s, e := scalar.Bound("==", number(10000)); e != api.ErrSyntax || !reflect.DeepEqual(s, api.Scalars{}) {
		t.Errorf("Bound(==, 1): %v, %d", s, e)
	}
	if s, e := scalar.Bound("!=", null); e != api.OK || !scalar.Has(s, no) || scalar.Has(s, null) {
		t.Errorf("Bound(!=, null): %v, %d", s, e)
	}
}

// TestType checks which scalars have a type (P11.1).
func TestType(t *testing.T) {
	for name, in := range map[string]func(d api.Data) bool{
		"null":   func(d api.Data) bool { return d.Kind == api.Null },
		"bool":   func(d api.Data) bool { return d.Kind == api.Bool },
		"int":    func(d api.Data) bool { return d.Kind == api.Number && d.Num%10000 == 0 },
		"number": func(d api.Data) bool { return d.Kind == api.Number },
		"string": func(d api.Data) bool { return d.Kind == api.String },
	} {
		s, e := scalar.Type(name)
		if e != api.OK || !scalar.Valid(s) {
			t.Fatalf("Type(%s): %v, %d", name, s, e)
		}
		for _, d := range universe() {
			if has(s, d) != in(d) || scalar.Has(s, d) != in(d) {
				t.Errorf("Type(%s) and %v", name, d)
			}
		}
	}
	for _, name := range []string{"", "Int", "float", "list", "struct", "nul", "string ", "any", "true"} {
		if s, e := scalar.Type(name); e != api.ErrName || !reflect.DeepEqual(s, api.Scalars{}) {
			t.Errorf("Type(%q): %v, %d", name, s, e)
		}
	}
	if !same(scalar.All(), api.Scalars{Null: true, False: true, True: true, Nums: numset.All(), Strs: automaton.All()}) {
		t.Error("All")
	}
}

// TestValid checks which sets are valid (P11.1).
func TestValid(t *testing.T) {
	x := random(11)
	for _, s := range sets(&x, 100) {
		if !scalar.Valid(s) {
			t.Errorf("%v is not valid", s)
		}
	}
	for _, s := range invalid() {
		if scalar.Valid(s) {
			t.Errorf("%v is valid", s)
		}
	}
	empty := api.Scalars{Nums: api.Nums{Ints: []api.Span{}, Fracs: []api.Span{}}, Strs: api.Lang{States: []api.State{}}}
	if !scalar.Valid(empty) || !scalar.Empty(empty) {
		t.Error("empty lists")
	}
}

// wrong are data that are no scalars, and the errors of Of.
var wrong = []struct {
	d api.Data
	e api.Errno
}{
	{api.Data{Kind: api.List}, api.ErrKind},
	{api.Data{Kind: api.Struct}, api.ErrKind},
	{api.Data{Kind: api.List, Items: []api.Data{{Kind: api.Null}}}, api.ErrKind},
	{api.Data{Kind: api.List, Items: []api.Data{{Kind: api.Bool, Num: 2}}}, api.ErrRange},
	{api.Data{Kind: api.Struct, Members: []api.Member{{Label: "a", Data: api.Data{Kind: api.Null}}, {Label: "a", Data: api.Data{Kind: api.Null}}}}, api.ErrTwice},
	{api.Data{}, api.ErrKind},
	{api.Data{Kind: 7}, api.ErrKind},
	{api.Data{Kind: api.Null, Num: 1}, api.ErrKind},
	{api.Data{Kind: api.Bool, Num: -1}, api.ErrRange},
	{api.Data{Kind: api.Number, Num: api.MaxUnits + 1}, api.ErrRange},
	{api.Data{Kind: api.String, Str: "a", Num: 1}, api.ErrKind},
}

// TestOf checks the sets of one scalar (P11.1, P11.4).
func TestOf(t *testing.T) {
	for _, d := range universe() {
		s, e := scalar.Of(d)
		if e != api.OK || !scalar.Valid(s) {
			t.Fatalf("Of(%v): %v, %d", d, s, e)
		}
		for _, x := range universe() {
			if has(s, x) != data.Equal(d, x) {
				t.Errorf("Of(%v) and %v", d, x)
			}
		}
		if one, ok := scalar.Single(s); !ok || !reflect.DeepEqual(one, d) {
			t.Errorf("Single(Of(%v)): %v, %v", d, one, ok)
		}
	}
	for _, w := range wrong {
		if s, e := scalar.Of(w.d); e != w.e || !reflect.DeepEqual(s, api.Scalars{}) {
			t.Errorf("Of(%v): %v, %d", w.d, s, e)
		}
		if scalar.Has(scalar.All(), w.d) {
			t.Errorf("Has(%v)", w.d)
		}
		for _, op := range []string{"<", "!=", "==", ""} {
			if s, e := scalar.Bound(op, w.d); e != w.e || !reflect.DeepEqual(s, api.Scalars{}) {
				t.Errorf("Bound(%s, %v): %v, %d", op, w.d, s, e)
			}
		}
	}
}

// TestBound compares bounds with the order of numbers and strings (P11.2, P11.5).
func TestBound(t *testing.T) {
	order := func(a, b api.Data) int {
		return cmp.Or(cmp.Compare(a.Num, b.Num), cmp.Compare(a.Str, b.Str))
	}
	holds := map[string]func(c int) bool{
		"<":  func(c int) bool { return c < 0 },
		"<=": func(c int) bool { return c <= 0 },
		">":  func(c int) bool { return c > 0 },
		">=": func(c int) bool { return c >= 0 },
	}
	for _, d := range universe() {
		one, _ := scalar.Of(d)
		s, e := scalar.Bound("!=", d)
		if e != api.OK || !same(s, scalar.Minus(scalar.All(), one)) {
			t.Errorf("Bound(!=, %v): %v, %d", d, s, e)
		}
		for _, x := range universe() {
			if has(s, x) == data.Equal(x, d) {
				t.Errorf("Bound(!=, %v) and %v", d, x)
			}
		}
		for op, f := range holds {
			s, e := scalar.Bound(op, d)
			if d.Kind == api.Null || d.Kind == api.Bool {
				if e != api.ErrKind || !reflect.DeepEqual(s, api.Scalars{}) {
					t.Errorf("Bound(%s, %v): %v, %d", op, d, s, e)
				}
				continue
			}
			if e != api.OK || !scalar.Valid(s) {
				t.Fatalf("Bound(%s, %v): %v, %d", op, d, s, e)
			}
			for _, x := range universe() {
				if has(s, x) != (x.Kind == d.Kind && f(order(x, d))) {
					t.Errorf("Bound(%s, %v) and %v", op, d, x)
				}
			}
		}
		for _, op := range []string{"==", "", "=", "=~", "!~", "<>", "!", "< "} {
			if s, e := scalar.Bound(op, d); e != api.ErrSyntax || !reflect.DeepEqual(s, api.Scalars{}) {
				t.Errorf("Bound(%q, %v): %v, %d", op, d, s, e)
			}
		}
	}
}

// TestAlgebra compares the operations with those on each scalar (P11.3).
func TestAlgebra(t *testing.T) {
	x := random(31)
	l := sets(&x, 40)
	for _, a := range l {
		for _, b := range l {
			before := []api.Scalars{clone(a), clone(b)}
			and, or, minus := scalar.And(a, b), scalar.Or(a, b), scalar.Minus(a, b)
			subset := true
			for _, d := range universe() {
				p, q := has(a, d), has(b, d)
				if has(and, d) != (p && q) || has(or, d) != (p || q) || has(minus, d) != (p && !q) || scalar.Has(a, d) != p {
					t.Fatalf("%v, %v: %v", a, b, d)
				}
				subset = subset && (!p || q)
			}
			if got := scalar.Subset(a, b); got && !subset || got != scalar.Empty(minus) || got != same(and, a) || got != same(or, b) {
				t.Fatalf("Subset(%v, %v): %v", a, b, got)
			}
			for _, s := range []api.Scalars{and, or, minus} {
				if !scalar.Valid(s) {
					t.Fatalf("%v, %v: %v is not valid", a, b, s)
				}
				overwrite(s)
			}
			if !same(a, before[0]) || !same(b, before[1]) {
				t.Fatalf("%v or %v is changed", before[0], before[1])
			}
		}
	}
}

// TestLaws checks that the sets are a distributive lattice (P11.5).
func TestLaws(t *testing.T) {
	x := random(51)
	check := func(what string, a, b api.Scalars) {
		t.Helper()
		if !same(a, b) {
			t.Fatalf("%s: %v, %v", what, a, b)
		}
	}
	for range 150 {
		a, b, c := some(&x), some(&x), some(&x)
		check("commutative", scalar.And(a, b), scalar.And(b, a))
		check("commutative", scalar.Or(a, b), scalar.Or(b, a))
		check("associative", scalar.And(a, scalar.And(b, c)), scalar.And(scalar.And(a, b), c))
		check("associative", scalar.Or(a, scalar.Or(b, c)), scalar.Or(scalar.Or(a, b), c))
		check("absorption", scalar.And(a, scalar.Or(a, b)), a)
		check("absorption", scalar.Or(a, scalar.And(a, b)), a)
		check("distributive", scalar.And(a, scalar.Or(b, c)), scalar.Or(scalar.And(a, b), scalar.And(a, c)))
		check("distributive", scalar.Or(a, scalar.And(b, c)), scalar.And(scalar.Or(a, b), scalar.Or(a, c)))
		check("difference", scalar.Or(scalar.Minus(a, b), scalar.And(a, b)), a)
		if !scalar.Subset(scalar.And(a, b), a) || !scalar.Subset(a, scalar.Or(a, b)) || !scalar.Subset(a, scalar.All()) || !scalar.Subset(api.Scalars{}, a) {
			t.Fatalf("the order of %v, %v", a, b)
		}
	}
}

// TestLeast checks Least and Single against all scalars that are nearer (P11.4, P11.5).
func TestLeast(t *testing.T) {
	x := random(41)
	l := sets(&x, 100)
	for _, d := range universe() {
		one, _ := scalar.Of(d)
		for _, other := range universe() {
			two, _ := scalar.Of(other)
			l = append(l, scalar.Or(one, two))
		}
	}
	for _, s := range l {
		var in []api.Data
		for _, d := range universe() {
			if has(s, d) {
				in = append(in, d)
			}
		}
		d, ok := scalar.Least(s)
		if ok != !scalar.Empty(s) || ok && !scalar.Has(s, d) || !ok && !reflect.DeepEqual(d, api.Data{}) || !ok && len(in) > 0 {
			t.Fatalf("Least(%v): %v, %v", s, d, ok)
		}
		// What comes first within a kind is checked by the tests of numset and lang, and below.
		if len(in) > 0 && (in[0].Kind < d.Kind || in[0].Kind == api.Bool && in[0].Num < d.Num) {
			t.Fatalf("Least(%v): %v, and not %v", s, d, in[0])
		}
		one, single := scalar.Single(s)
		of, _ := scalar.Of(d)
		if single != (ok && same(of, s)) || single && !data.Equal(one, d) || !single && !reflect.DeepEqual(one, api.Data{}) {
			t.Fatalf("Single(%v): %v, %v", s, one, single)
		}
	}
	for _, c := range []struct {
		op   string
		d    api.Data
		want api.Data
	}{{">", number(-25000), number(0)}, {"<", number(0), number(-1)}, {">=", number(20001), number(20001)}, {">", text("ab"), text("b")}, {">=", text("abc"), text("b")}, {"<", text("b"), text("")}, {"!=", null, no}, {"!=", no, null}} {
		s, e := scalar.Bound(c.op, c.d)
		if d, ok := scalar.Least(s); e != api.OK || !ok || !data.Equal(d, c.want) {
			t.Errorf("Least of %s %v: %v, %v", c.op, c.d, d, ok)
		}
	}
}

// TestCompare checks that Compare is the total order that is described (P11.4).
func TestCompare(t *testing.T) {
	x := random(61)
	l := sets(&x, 60)
	first := func(a, b bool) int {
		if a == b {
			return 0
		}
		if a {
			return -1
		}
		return 1
	}
	for _, a := range l {
		for _, b := range l {
			want := cmp.Or(first(a.Null, b.Null), first(a.False, b.False), first(a.True, b.True), numset.Compare(a.Nums, b.Nums), lang.Compare(a.Strs, b.Strs))
			if got := scalar.Compare(a, b); got != want || got != -scalar.Compare(b, a) || (got == 0) != same(a, b) {
				t.Fatalf("Compare(%v, %v): %d, want %d", a, b, got, want)
			}
		}
	}
	slices.SortFunc(l, scalar.Compare)
	for i := range l {
		for j := range l {
			if got := scalar.Compare(l[i], l[j]); got != 0 && got != cmp.Compare(i, j) {
				t.Fatal("Compare is no total order")
			}
		}
	}
	if scalar.Compare(api.Scalars{}, scalar.All()) != 1 {
		t.Error("the empty set is not the greatest one")
	}
}

// TestInvalid checks that a set that is not valid counts as the empty one (P11.3, P11.4).
func TestInvalid(t *testing.T) {
	x := random(71)
	for i, s := range invalid() {
		for _, a := range sets(&x, 3) {
			for what, ok := range map[string]bool{
				"And":     same(scalar.And(s, a), api.Scalars{}) && same(scalar.And(a, s), api.Scalars{}),
				"Or":      same(scalar.Or(s, a), a) && same(scalar.Or(a, s), a) && same(scalar.Or(s, s), api.Scalars{}),
				"Minus":   same(scalar.Minus(s, a), api.Scalars{}) && same(scalar.Minus(a, s), a),
				"Subset":  scalar.Subset(s, a) && scalar.Subset(a, s) == scalar.Empty(a) && scalar.Subset(s, s),
				"Compare": scalar.Compare(s, a) == 0 && scalar.Compare(a, s) == 0,
				"Empty":   scalar.Empty(s),
			} {
				if !ok {
					t.Errorf("%s of the invalid set %d and %v", what, i, a)
				}
			}
		}
		for _, d := range universe() {
			if scalar.Has(s, d) {
				t.Errorf("the invalid set %d has %v", i, d)
			}
		}
		if d, ok := scalar.Least(s); ok || !reflect.DeepEqual(d, api.Data{}) {
			t.Errorf("Least of the invalid set %d: %v", i, d)
		}
		if d, ok := scalar.Single(s); ok || !reflect.DeepEqual(d, api.Data{}) {
			t.Errorf("Single of the invalid set %d: %v", i, d)
		}
	}
}
