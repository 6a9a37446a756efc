package lang_test

import (
	"cmp"
	"reflect"
	"slices"
	"strings"
	"testing"

	"configlang/api"
	"configlang/automaton"
	"configlang/lang"
	"configlang/regex"
)

// random returns numbers that are the same in each run.
type random uint64

func (x *random) below(n int) int {
	*x = *x*6364136223846793005 + 1442695040888963407
	return int(uint64(*x)>>33) % n
}

// of returns the automaton of a regular expression.
func of(t *testing.T, s string) api.Lang {
	t.Helper()
	r, f := regex.Parse(s)
	if f != (api.Fault{}) {
		t.Fatalf("Parse(%q): %v", s, f)
	}
	l, e := automaton.Of(r)
	if e != api.OK {
		t.Fatalf("Of(%q): %d", s, e)
	}
	return l
}

// some returns a random automaton with edges between a few letters; it is often finite.
func some(x *random, n int) api.Lang {
	l := make([]api.State, 1+x.below(n))
	forward := x.below(2) == 0
	for i := range l {
		l[i].Accept = x.below(3) == 0
		for b := 'a'; b <= 'c'; b++ {
			to := x.below(len(l))
			if forward {
				to = i + 1 + x.below(3)
			}
			if to < len(l) && x.below(3) > 0 {
				l[i].Edges = append(l[i].Edges, api.Edge{Lo: byte(b), Hi: byte(b), To: to})
			}
		}
		if x.below(6) == 0 {
			l[i].Edges = append([]api.Edge{{Lo: 0, Hi: '`', To: x.below(len(l))}}, l[i].Edges...)
		}
		if x.below(6) == 0 {
			l[i].Edges = append(l[i].Edges, api.Edge{Lo: 'd', Hi: 255, To: x.below(len(l))})
		}
	}
	m, _ := automaton.Minimal(l)
	return m
}

// texts returns all strings over some letters with at most n bytes, in shortlex order if the letters are ascending.
func texts(letters string, n int) []string {
	all := []string{""}
	last := all
	for range n {
		var next []string
		for _, s := range last {
			for i := range len(letters) {
				next = append(next, s+letters[i:i+1])
			}
		}
		all = append(all, next...)
		last = next
	}
	return all
}

// clone returns a copy of an automaton.
func clone(l api.Lang) api.Lang {
	m := api.Lang{States: slices.Clone(l.States)}
	for i := range m.States {
		m.States[i].Edges = slices.Clone(m.States[i].Edges)
	}
	return m
}

// invalid are automata that are not canonical: they count as the empty set.
var invalid = []api.Lang{
	{States: []api.State{{}}},
	{States: []api.State{{Accept: true, Edges: []api.Edge{{Lo: 'a', Hi: 'a', To: 1}}}}},
	{States: []api.State{{Accept: true, Edges: []api.Edge{{Lo: 'a', Hi: 'a', To: -1}}}}},
	{States: []api.State{{Accept: true, Edges: []api.Edge{{Lo: 'b', Hi: 'a', To: 0}}}}},
	{States: []api.State{{Accept: true, Edges: []api.Edge{{Lo: 'a', Hi: 'a'}, {Lo: 'b', Hi: 'b'}}}}},
	{States: []api.State{{Accept: true}, {Accept: true}}},
	{States: []api.State{{Accept: true, Edges: []api.Edge{{Lo: 0, Hi: 255, To: 1}}}, {Accept: true, Edges: []api.Edge{{Lo: 0, Hi: 255, To: 0}}}}},
}

// TestExamples checks the examples of the chapter.
func TestExamples(t *testing.T) {
	l := lang.And(of(t, "a*"), lang.Minus(of(t, "(aa)*b?"), automaton.Word("")))
	if s, ok := lang.Least(l); s != "aa" || !ok {
		t.Errorf("Least: %q, %v", s, ok)
	}
	l, e := lang.Bound("<", "b")
	if e != api.OK || !automaton.Accepts(l, "") || !automaton.Accepts(l, "a") || !automaton.Accepts(l, "azz") || automaton.Accepts(l, "b") {
		t.Errorf("Bound: %v, %d", l, e)
	}
}

// TestAlgebra compares the operations with those of the sets of all short strings (P6.1, P6.5).
func TestAlgebra(t *testing.T) {
	x := random(6)
	all := texts("\x00abcz", 5)
	for range 300 {
		a, b := some(&x, 5), some(&x, 5)
		before := []api.Lang{clone(a), clone(b)}
		and, or, minus, not := lang.And(a, b), lang.Or(a, b), lang.Minus(a, b), lang.Not(a)
		for _, l := range []api.Lang{and, or, minus, not} {
			if !automaton.Valid(l) {
				t.Fatalf("%v, %v: %v is not valid", a, b, l)
			}
		}
		subset := true
		for _, s := range all {
			p, q := automaton.Accepts(a, s), automaton.Accepts(b, s)
			if automaton.Accepts(and, s) != (p && q) || automaton.Accepts(or, s) != (p || q) || automaton.Accepts(minus, s) != (p && !q) || automaton.Accepts(not, s) == p {
				t.Fatalf("%v, %v: %q", a, b, s)
			}
			subset = subset && (!p || q)
		}
		if got := lang.Subset(a, b); got != subset && (got || len(minus.States) == 0) || got != (len(minus.States) == 0) {
			t.Fatalf("Subset(%v, %v): %v", a, b, got)
		}
		if !reflect.DeepEqual([]api.Lang{a, b}, before) {
			t.Fatalf("%v is changed", before)
		}
	}
}

// TestLaws checks that the sets are a Boolean algebra whose order is Subset (P6.5).
func TestLaws(t *testing.T) {
	x := random(16)
	same := func(what string, a, b api.Lang) {
		t.Helper()
		if !automaton.Same(a, b) {
			t.Fatalf("%s: %v, %v", what, a, b)
		}
	}
	none, all := api.Lang{}, automaton.All()
	for range 300 {
		a, b, c := some(&x, 4), some(&x, 4), some(&x, 4)
		same("commutative", lang.And(a, b), lang.And(b, a))
		same("commutative", lang.Or(a, b), lang.Or(b, a))
		same("associative", lang.And(a, lang.And(b, c)), lang.And(lang.And(a, b), c))
		same("associative", lang.Or(a, lang.Or(b, c)), lang.Or(lang.Or(a, b), c))
		same("idempotent", lang.And(a, a), a)
		same("idempotent", lang.Or(a, a), a)
		same("absorption", lang.And(a, lang.Or(a, b)), a)
		same("distributive", lang.And(a, lang.Or(b, c)), lang.Or(lang.And(a, b), lang.And(a, c)))
		same("complement", lang.Not(lang.Not(a)), a)
		same("complement", lang.And(a, lang.Not(a)), none)
		same("complement", lang.Or(a, lang.Not(a)), all)
		same("De Morgan", lang.Not(lang.And(a, b)), lang.Or(lang.Not(a), lang.Not(b)))
		same("difference", lang.Minus(a, b), lang.And(a, lang.Not(b)))
		same("bounds", lang.And(a, all), a)
		same("bounds", lang.Or(a, none), a)
		if lang.Subset(a, b) != automaton.Same(lang.And(a, b), a) || !lang.Subset(lang.And(a, b), a) || !lang.Subset(a, lang.Or(a, b)) || !lang.Subset(none, a) || !lang.Subset(a, all) {
			t.Fatalf("the order of %v, %v", a, b)
		}
	}
	same("complement", lang.Not(none), all)
	same("complement", lang.Not(all), none)
}

// TestWords compares Least, Words, Finite and Single with the list of all short strings (P6.2).
func TestWords(t *testing.T) {
	x := random(26)
	all := texts("abc", 7)
	finite, single := 0, 0
	for range 800 {
		a := lang.And(some(&x, 5), of(t, "[a-c]*"))
		var want []string
		for _, s := range all {
			if automaton.Accepts(a, s) {
				want = append(want, s)
			}
		}
		// A set with more than len(States) bytes in a string is infinite; there are at most 5 states.
		long := slices.IndexFunc(want, func(s string) bool { return len(s) >= 5 })
		isFinite := long < 0
		if lang.Finite(a) != isFinite {
			t.Fatalf("Finite(%v): %v", a, !isFinite)
		}
		for _, n := range []int{0, -1, 1, 2, 3, 10, 40} {
			w := want[:min(max(n, 0), len(want))]
			if got := lang.Words(a, n); !slices.Equal(got, w) && (isFinite || len(want) >= n) {
				t.Fatalf("Words(%v, %d): %q, want %q", a, n, got, w)
			}
		}
		s, ok := lang.Least(a)
		if ok != (len(want) > 0) || ok && s != want[0] || !ok && s != "" {
			t.Fatalf("Least(%v): %q, %v", a, s, ok)
		}
		s, ok = lang.Single(a)
		if ok != (len(want) == 1 && isFinite) || ok && s != want[0] || !ok && s != "" {
			t.Fatalf("Single(%v): %q, %v", a, s, ok)
		}
		if isFinite {
			finite++
		}
		if ok {
			single++
		}
	}
	if finite < 100 || finite > 700 || single < 20 {
		t.Errorf("%d finite sets, %d single strings", finite, single)
	}
}

// TestMany checks the numbers of words, and words with all bytes (P6.2).
func TestMany(t *testing.T) {
	var want []string
	for i := range 256 {
		want = append(want, string([]byte{byte(i)}))
	}
	want = append([]string{""}, want...)
	for i := range 1000 - len(want) {
		want = append(want, string([]byte{byte(i / 256), byte(i % 256)}))
	}
	for _, n := range []int{999, 1000, 1001, 1 << 62} {
		if got := lang.Words(automaton.All(), n); !slices.Equal(got, want[:min(n, 1000)]) {
			t.Errorf("Words(All, %d): %d words", n, len(got))
		}
	}
	if got := lang.Words(of(t, "[ab][cd]"), 9); !slices.Equal(got, []string{"ac", "ad", "bc", "bd"}) {
		t.Errorf("Words: %q", got)
	}
	if got := lang.Words(of(t, "b|ab|aab|\\xff"), 9); !slices.Equal(got, []string{"b", "\xff", "ab", "aab"}) {
		t.Errorf("Words: %q", got)
	}
	if lang.Finite(automaton.All()) || !lang.Finite(api.Lang{}) || !lang.Finite(automaton.Word("abc")) || lang.Finite(of(t, "ab*c")) || !lang.Finite(of(t, "a|bc|[x-z][0-9]")) {
		t.Error("Finite")
	}
}

// holds is the definition of a bound.
func holds(op, s, t string) bool {
	switch op {
	case "<":
		return s < t
	case "<=":
		return s <= t
	case ">":
		return s > t
	case ">=":
		return s >= t
	case "==":
		return s == t
	}
	return s != t
}

// TestBound compares Bound with the order of strings (P6.3).
func TestBound(t *testing.T) {
	all := texts("\x00\x01ab\xfe\xff", 4)
	for _, op := range []string{"<", "<=", ">", ">=", "==", "!="} {
		for _, s := range append(texts("\x00a\xff", 3), "ab", "b", "ba", "\x01", "a\x01") {
			l, e := lang.Bound(op, s)
			if e != api.OK || !automaton.Valid(l) {
				t.Fatalf("Bound(%s, %q): %v, %d", op, s, l, e)
			}
			for _, u := range all {
				if automaton.Accepts(l, u) != holds(op, u, s) {
					t.Fatalf("Bound(%s, %q): %q", op, s, u)
				}
			}
		}
	}
	for _, op := range []string{"", "=", "=~", "!~", "<>", " <", "<<", "!", "~"} {
		if l, e := lang.Bound(op, "a"); e != api.ErrSyntax || len(l.States) > 0 {
			t.Errorf("Bound(%q): %v, %d", op, l, e)
		}
	}
}

// TestCompare compares Compare with its definition on all short strings (P6.4).
func TestCompare(t *testing.T) {
	x := random(46)
	all := texts("abc", 8)
	order := func(a, b api.Lang) int {
		for _, s := range all {
			switch p, q := automaton.Accepts(a, s), automaton.Accepts(b, s); {
			case p && !q:
				return -1
			case q && !p:
				return 1
			}
		}
		return 0
	}
	letters := of(t, "[a-c]*")
	var sets []api.Lang
	for range 60 {
		a := lang.And(some(&x, 4), letters)
		sets = append(sets, a)
		for _, b := range sets {
			if got := lang.Compare(a, b); got != order(a, b) || got != -lang.Compare(b, a) || (got == 0) != automaton.Same(a, b) {
				t.Fatalf("Compare(%v, %v): %d", a, b, got)
			}
		}
	}
	slices.SortFunc(sets, lang.Compare)
	for i := range sets {
		for j := range sets {
			if got := lang.Compare(sets[i], sets[j]); got != 0 && got != cmp.Compare(i, j) {
				t.Fatal("Compare is no total order")
			}
		}
	}
	if lang.Compare(api.Lang{}, automaton.Word("z")) != 1 || lang.Compare(automaton.Word("a"), automaton.Word("b")) != -1 || lang.Compare(automaton.Word("aa"), automaton.Word("b")) != 1 || lang.Compare(automaton.All(), automaton.Word("")) != -1 {
		t.Error("Compare")
	}
}

// TestInvalid checks that automata that are not valid count as the empty set (P6.1 to P6.5).
func TestInvalid(t *testing.T) {
	a := of(t, "ab*")
	for i, l := range invalid {
		for what, ok := range map[string]bool{
			"And":     len(lang.And(l, a).States) == 0 && len(lang.And(a, l).States) == 0,
			"Or":      automaton.Same(lang.Or(l, a), a) && automaton.Same(lang.Or(a, l), a) && len(lang.Or(l, l).States) == 0,
			"Not":     automaton.Same(lang.Not(l), automaton.All()),
			"Minus":   automaton.Same(lang.Minus(a, l), a) && len(lang.Minus(l, a).States) == 0,
			"Subset":  lang.Subset(l, a) && !lang.Subset(a, l) && lang.Subset(l, api.Lang{}),
			"Words":   len(lang.Words(l, 5)) == 0,
			"Finite":  lang.Finite(l),
			"Compare": lang.Compare(l, a) == 1 && lang.Compare(a, l) == -1 && lang.Compare(l, l) == 0 && lang.Compare(l, api.Lang{}) == 0,
		} {
			if !ok {
				t.Errorf("%s of the invalid automaton %d", what, i)
			}
		}
		if s, ok := lang.Least(l); s != "" || ok {
			t.Errorf("Least of the invalid automaton %d: %q", i, s)
		}
		if s, ok := lang.Single(l); s != "" || ok {
			t.Errorf("Single of the invalid automaton %d: %q", i, s)
		}
	}
}

// TestMemory checks that results share no memory with arguments (P6.1).
func TestMemory(t *testing.T) {
	a := of(t, "ab*")
	before := clone(a)
	for _, l := range []api.Lang{lang.And(a, a), lang.Or(a, a), lang.Minus(a, api.Lang{}), lang.Not(lang.Not(a)), lang.Or(a, api.Lang{})} {
		if !automaton.Same(l, a) {
			t.Fatalf("%v, want %v", l, a)
		}
		for i := range l.States {
			l.States[i].Accept = !l.States[i].Accept
			for j := range l.States[i].Edges {
				l.States[i].Edges[j].To = 77
			}
		}
		if !automaton.Same(a, before) {
			t.Fatal("a result shares memory")
		}
	}
}

// TestLarge checks long strings and many states (P6.1 to P6.4).
func TestLarge(t *testing.T) {
	long := strings.Repeat("ab", 30000)
	w := automaton.Word(long)
	if s, ok := lang.Single(w); !ok || s != long {
		t.Error("Single")
	}
	if got := lang.Words(w, 5); !slices.Equal(got, []string{long}) || !lang.Finite(w) {
		t.Error("Words")
	}
	l, e := lang.Bound(">=", long)
	if e != api.OK || !automaton.Accepts(l, long) || !automaton.Accepts(l, "b") || automaton.Accepts(l, long[:100]) || !lang.Subset(w, l) || lang.Subset(l, w) || lang.Compare(w, l) != 1 {
		t.Error("Bound")
	}
	if s, ok := lang.Least(l); !ok || s != "b" {
		t.Errorf("Least: %.10q", s)
	}
	other := automaton.Word(long[:len(long)-1] + "c")
	both := lang.Or(w, other)
	if !automaton.Same(lang.And(both, w), w) || !automaton.Same(lang.Minus(both, w), other) || lang.Compare(w, other) != -1 {
		t.Error("products")
	}
	// Every string of 5000 bytes is accepted, and none that is shorter.
	states := make([]api.State, 5001)
	for i := range states {
		states[i].Edges = []api.Edge{{Lo: 0, Hi: 255, To: min(i+1, 5000)}}
	}
	states[5000].Accept = true
	got := lang.Words(api.Lang{States: states}, 300)
	if len(got) != 300 || got[0] != strings.Repeat("\x00", 5000) || got[299] != strings.Repeat("\x00", 4998)+"\x01\x2b" {
		t.Errorf("Words: %d", len(got))
	}
	r := of(t, "(....................)*")
	got = lang.Words(lang.And(r, of(t, "(aaaaaaa)*")), 100)
	for i, s := range got {
		if s != strings.Repeat("a", 140*i) {
			t.Fatalf("word %d: %d bytes", i, len(s))
		}
	}
	if len(got) != 100 {
		t.Errorf("Words: %d", len(got))
	}
}
