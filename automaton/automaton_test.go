package automaton_test

import (
	"fmt"
	"reflect"
	"slices"
	"strings"
	"testing"

	"configlang/api"
	"configlang/automaton"
	"configlang/byteset"
	"configlang/regex"
)

// random returns numbers that are the same in each run.
type random uint64

func (x *random) below(n int) int {
	*x = *x*6364136223846793005 + 1442695040888963407
	return int(uint64(*x)>>33) % n
}

// parse returns the expression of a text.
func parse(t *testing.T, s string) api.Regex {
	t.Helper()
	r, f := regex.Parse(s)
	if f != (api.Fault{}) {
		t.Fatalf("Parse(%q): %v", s, f)
	}
	return r
}

// of returns the automaton of a text.
func of(t *testing.T, s string) api.Lang {
	t.Helper()
	l, e := automaton.Of(parse(t, s))
	if e != api.OK {
		t.Fatalf("Of(%q): %d", s, e)
	}
	return l
}

// words returns all strings over some letters with at most n bytes.
func words(letters string, n int) []string {
	l := []string{""}
	last := l
	for range n {
		var next []string
		for _, s := range last {
			for i := range len(letters) {
				next = append(next, s+letters[i:i+1])
			}
		}
		l = append(l, next...)
		last = next
	}
	return l
}

// target returns the state to which a byte leads, or -1: the definition, byte by byte.
func target(l []api.State, n int, b int) int {
	if n >= 0 {
		for _, e := range l[n].Edges {
			if int(e.Lo) <= b && b <= int(e.Hi) {
				return e.To
			}
		}
	}
	return -1
}

// accepts is the definition of Accepts for a well-formed table.
func accepts(l []api.State, s string) bool {
	if len(l) == 0 {
		return false
	}
	n := 0
	for i := range len(s) {
		n = target(l, n, int(s[i]))
	}
	return n >= 0 && l[n].Accept
}

// differ reports for each pair of states, and of a state and the missing one (the last index), whether they accept different strings, by marking pairs until nothing changes.
func differ(l []api.State) [][]bool {
	n := len(l)
	index := func(i int) int {
		if i < 0 {
			return n
		}
		return i
	}
	d := make([][]bool, n+1)
	for i := range n + 1 {
		d[i] = make([]bool, n+1)
		for j := range n + 1 {
			d[i][j] = (i < n && l[i].Accept) != (j < n && l[j].Accept)
		}
	}
	for again := true; again; {
		again = false
		for i := range n + 1 {
			for j := range n + 1 {
				for b := 0; b < 256 && !d[i][j]; b++ {
					x, y := -1, -1
					if i < n {
						x = target(l, i, b)
					}
					if j < n {
						y = target(l, j, b)
					}
					if d[index(x)][index(y)] {
						d[i][j], again = true, true
					}
				}
			}
		}
	}
	return d
}

// fault names the property of canonical automata that l does not have, if any: the definition.
func fault(l []api.State) string {
	n := len(l)
	met := []int{}
	if n > 0 {
		met = append(met, 0)
	}
	for i := 0; i < len(met); i++ {
		last := api.Edge{To: -1}
		for _, e := range l[met[i]].Edges {
			switch {
			case e.Lo > e.Hi || last.To >= 0 && e.Lo <= last.Hi || e.To < 0 || e.To >= n:
				return "not well-formed"
			case last.To == e.To && int(last.Hi)+1 == int(e.Lo):
				return "an edge is cut in two"
			case !slices.Contains(met, e.To):
				met = append(met, e.To)
			}
			last = e
		}
	}
	for i, m := range met {
		if i != m {
			return "not numbered as they are met"
		}
	}
	if len(met) != n {
		return "a state cannot be reached"
	}
	d := differ(l)
	for i := range n {
		for j := range n + 1 {
			if i != j && !d[i][j] {
				return "states are not different"
			}
		}
	}
	return ""
}

// some returns a well-formed table with at most n states and edges between a few letters.
func some(x *random, n int) []api.State {
	l := make([]api.State, x.below(n+1))
	for i := range l {
		l[i].Accept = x.below(3) == 0
		for lo := 0; lo < 256; {
			hi := lo + x.below(3)
			switch x.below(8) {
			case 0:
				hi = 'a' - 1
			case 1:
				hi = 'c'
			case 2:
				hi = 255
			case 3:
				lo, hi = 'a'+x.below(3), 'b'+x.below(3)
			}
			if len(l[i].Edges) > 0 {
				lo = max(lo, int(l[i].Edges[len(l[i].Edges)-1].Hi)+1)
			}
			hi = min(hi, 255)
			if lo <= hi && x.below(4) > 0 {
				l[i].Edges = append(l[i].Edges, api.Edge{Lo: byte(lo), Hi: byte(hi), To: x.below(len(l))})
			}
			lo = max(lo, hi+1) + x.below(120)
		}
	}
	return l
}

// shuffle returns a table that accepts the same strings: with other numbers, further states, and edges that are cut.
func shuffle(x *random, l []api.State) []api.State {
	if len(l) == 0 {
		return []api.State{{Edges: []api.Edge{{Lo: 3, Hi: 9, To: 0}}}}
	}
	extra := x.below(4)
	order := make([]int, len(l)+extra)
	for i := range order {
		order[i] = i
	}
	for i := len(order) - 1; i > 1; i-- {
		j := 1 + x.below(i)
		order[i], order[j] = order[j], order[i]
	}
	m := make([]api.State, len(order))
	for i := range order {
		if i >= len(l) { // a state to which nothing leads
			m[order[i]] = api.State{Accept: x.below(2) == 0, Edges: []api.Edge{{Lo: 0, Hi: 200, To: x.below(len(m))}}}
			continue
		}
		s := api.State{Accept: l[i].Accept}
		for _, e := range l[i].Edges {
			for int(e.Lo) < int(e.Hi) && x.below(2) == 0 {
				cut := e.Lo + byte(x.below(int(e.Hi)-int(e.Lo)))
				s.Edges = append(s.Edges, api.Edge{Lo: e.Lo, Hi: cut, To: order[e.To]})
				e.Lo = cut + 1
			}
			s.Edges = append(s.Edges, api.Edge{Lo: e.Lo, Hi: e.Hi, To: order[e.To]})
		}
		m[order[i]] = s
	}
	return m
}

// clone returns a copy of a table.
func clone(l []api.State) []api.State {
	m := slices.Clone(l)
	for i := range m {
		m[i].Edges = slices.Clone(m[i].Edges)
	}
	return m
}

// TestExamples checks the examples of the chapter.
func TestExamples(t *testing.T) {
	want := api.Lang{States: []api.State{{Edges: []api.Edge{{Lo: 'a', Hi: 'b', To: 1}}}, {Accept: true}}}
	for _, s := range []string{"a|b", "[ab]", "b|a", "[a-b]", "a|b|a"} {
		if l := of(t, s); !automaton.Same(l, want) || !reflect.DeepEqual(l, want) {
			t.Errorf("Of(%s): %v", s, l)
		}
	}
	if l := automaton.All(); !reflect.DeepEqual(l, api.Lang{States: []api.State{{Accept: true, Edges: []api.Edge{{Hi: 255}}}}}) {
		t.Errorf("All: %v", l)
	}
	if l := automaton.Word("ab"); !reflect.DeepEqual(l, api.Lang{States: []api.State{{Edges: []api.Edge{{Lo: 'a', Hi: 'a', To: 1}}}, {Edges: []api.Edge{{Lo: 'b', Hi: 'b', To: 2}}}, {Accept: true}}}) {
		t.Errorf("Word: %v", l)
	}
	for _, l := range [][]api.State{{{}}, nil, {}, {{Edges: []api.Edge{{Lo: 0, Hi: 255}}}}, {{}, {Accept: true}}} {
		if m, e := automaton.Minimal(l); e != api.OK || len(m.States) != 0 {
			t.Errorf("Minimal(%v): %v, %d", l, m, e)
		}
	}
}

// TestMinimal compares Minimal with the definition, for many small tables (P5.1, P5.4).
func TestMinimal(t *testing.T) {
	x := random(5)
	all := words("abc\x00\xff", 4)
	for range 1500 {
		l := some(&x, 6)
		before := clone(l)
		m, e := automaton.Minimal(l)
		if e != api.OK || len(m.States) > len(l) || !automaton.Valid(m) {
			t.Fatalf("Minimal(%v): %v, %d", l, m, e)
		}
		if f := fault(m.States); f != "" {
			t.Fatalf("Minimal(%v): %v: %s", l, m, f)
		}
		if !reflect.DeepEqual(l, before) {
			t.Fatalf("Minimal changes %v to %v", before, l)
		}
		for _, s := range all {
			if want := accepts(l, s); automaton.Accepts(api.Lang{States: l}, s) != want || automaton.Accepts(m, s) != want || accepts(m.States, s) != want {
				t.Fatalf("%v and its minimal automaton %v differ in %q", l, m, s)
			}
		}
		if again, e := automaton.Minimal(m.States); e != api.OK || !automaton.Same(m, again) {
			t.Fatalf("Minimal of %v: %v", m, again)
		}
		if other, e := automaton.Minimal(shuffle(&x, l)); e != api.OK || !automaton.Same(m, other) {
			t.Fatalf("%v shuffled: %v, want %v", l, other, m)
		}
		if valid := automaton.Valid(api.Lang{States: l}); valid != (fault(l) == "") {
			t.Fatalf("Valid(%v): %v", l, valid)
		}
		if other := shuffle(&x, m.States); automaton.Valid(api.Lang{States: other}) != (fault(other) == "") {
			t.Fatalf("Valid(%v)", other)
		}
	}
}

// TestDifferent checks that tables have the same minimal automaton exactly if they accept the same strings (P5.4).
func TestDifferent(t *testing.T) {
	x := random(6)
	all := words("abc\x00", 5)
	same := 0
	for range 3000 {
		a, _ := automaton.Minimal(some(&x, 3))
		b, _ := automaton.Minimal(some(&x, 3))
		if automaton.Same(a, b) {
			same++
			continue
		}
		if !slices.ContainsFunc(all, func(s string) bool { return accepts(a.States, s) != accepts(b.States, s) }) {
			// Edges between the letters of all cannot be told apart by them.
			found := false
			for _, s := range words("abcd`\x00\x01\x70\xc8\xfe\xff", 3) {
				found = found || accepts(a.States, s) != accepts(b.States, s)
			}
			for i := 0; i < 256 && !found; i++ {
				for j := range 256 {
					s := string([]byte{byte(i), byte(j)})
					found = found || accepts(a.States, s) != accepts(b.States, s) || accepts(a.States, s[:1]) != accepts(b.States, s[:1])
				}
			}
			if !found {
				t.Fatalf("%v and %v accept the same strings", a, b)
			}
		}
	}
	if same == 0 {
		t.Error("no two tables accept the same strings")
	}
}

// TestMalformed checks tables that are not well-formed (P5.1).
func TestMalformed(t *testing.T) {
	edge := func(lo, hi byte, to int) api.Edge { return api.Edge{Lo: lo, Hi: hi, To: to} }
	for _, l := range [][]api.Edge{
		{edge(2, 1, 0)}, {edge(255, 0, 0)}, {edge(1, 1, 2)}, {edge(1, 1, -1)}, {edge(0, 255, 1<<62)}, {edge(0, 255, -1<<63)},
		{edge(1, 2, 0), edge(2, 3, 0)}, {edge(1, 1, 0), edge(1, 1, 0)}, {edge(5, 6, 0), edge(1, 2, 0)}, {edge(0, 255, 0), edge(0, 0, 0)}, {edge(0, 255, 0), edge(255, 255, 0)}, {edge(1, 9, 0), edge(3, 4, 0)},
	} {
		for _, states := range [][]api.State{{{Accept: true, Edges: l}, {}}, {{Accept: true}, {Edges: l}}} {
			bad := api.Lang{States: states}
			if m, e := automaton.Minimal(states); e != api.ErrKind || len(m.States) != 0 {
				t.Errorf("Minimal(%v): %v, %d", l, m, e)
			}
			if automaton.Valid(bad) || automaton.Accepts(bad, "") || automaton.Accepts(bad, "\x01") || !automaton.Same(bad, bad) || automaton.Same(bad, automaton.All()) {
				t.Errorf("%v: not well-formed", l)
			}
		}
	}
	if m, e := automaton.Minimal([]api.State{{Accept: true, Edges: []api.Edge{edge(0, 0, 1), edge(1, 254, 0), edge(255, 255, 1)}}, {}}); e != api.OK || !automaton.Valid(m) {
		t.Errorf("well-formed: %v, %d", m, e)
	}
}

// TestSame compares automata state by state, whether they are valid or not (P5.1).
func TestSame(t *testing.T) {
	lang := func(l ...api.State) api.Lang { return api.Lang{States: l} }
	all := []api.Lang{
		{}, lang(api.State{}), lang(api.State{Accept: true}), lang(api.State{}, api.State{}), lang(api.State{Edges: []api.Edge{{}}}), lang(api.State{Edges: []api.Edge{{Lo: 1}}}), lang(api.State{Edges: []api.Edge{{Hi: 1}}}), lang(api.State{Edges: []api.Edge{{To: 1}}}),
		lang(api.State{Edges: []api.Edge{{}, {}}}), lang(api.State{Edges: []api.Edge{{}}}, api.State{}), lang(api.State{}, api.State{Edges: []api.Edge{{}}}), lang(api.State{Accept: true}, api.State{}), lang(api.State{}, api.State{Accept: true}),
	}
	for i, a := range all {
		for j, b := range all {
			if automaton.Same(a, b) != (i == j) || automaton.Same(a, api.Lang{States: clone(b.States)}) != (i == j) {
				t.Errorf("Same(%v, %v)", a, b)
			}
		}
	}
	if !automaton.Same(lang(), api.Lang{States: []api.State{}}) || !automaton.Same(lang(api.State{Edges: []api.Edge{}}), lang(api.State{})) {
		t.Error("nil and empty lists differ")
	}
}

// one returns the expression of a byte from lo to hi.
func one(lo, hi byte) api.Regex {
	return api.Regex{Kind: api.OneOf, Set: byteset.Of(lo, hi)}
}

// part returns an expression of a kind.
func part(kind int, subs ...api.Regex) api.Regex {
	return api.Regex{Kind: kind, Subs: subs}
}

// someRegex returns a valid expression with at most the given number of levels.
func someRegex(x *random, levels int) api.Regex {
	kind := x.below(6)
	if levels == 1 {
		kind = min(x.below(9), api.OneOf)
	}
	switch kind {
	case api.OneOf:
		sets := []api.Bytes{byteset.Of('a', 'a'), byteset.Of('b', 'b'), byteset.Of('a', 'b'), byteset.Of('b', 'c'), byteset.Of(0, 255), {}, byteset.Not(byteset.Of('a', 'a'))}
		return api.Regex{Kind: api.OneOf, Set: sets[x.below(len(sets))]}
	case api.Cat, api.Alt:
		r := part(kind)
		for range 2 + x.below(2) {
			r.Subs = append(r.Subs, someRegex(x, levels-1))
		}
		return r
	case api.Star:
		return part(kind, someRegex(x, levels-1))
	}
	return part(kind)
}

// ending returns for each position of r an expression of the strings whose last byte can be read at it.
func ending(r api.Regex) []api.Regex {
	var l []api.Regex
	if r.Kind == api.OneOf {
		l = append(l, r)
	}
	for i, sub := range r.Subs {
		for _, x := range ending(sub) {
			switch {
			case r.Kind == api.Star:
				x = part(api.Cat, r, x)
			case r.Kind == api.Cat && i > 0:
				x = part(api.Cat, append(slices.Clone(r.Subs[:i]), x)...)
			}
			l = append(l, x)
		}
	}
	return l
}

// countSets returns the number of sets of positions to which strings over the bytes a, b, c and 0xff lead, but no more than a few hundred.
func countSets(r api.Regex) int {
	positions := ending(r)
	found := map[string]bool{}
	queue := []string{""}
	for i := 0; i < len(queue) && len(found) < 600; i++ {
		for _, c := range []string{"a", "b", "c", "\xff"} {
			s := queue[i] + c
			text, any := "", false
			for _, p := range positions {
				m := regex.Match(p, s)
				any = any || m
				text += fmt.Sprint(m)
			}
			if any && !found[text] {
				found[text] = true
				queue = append(queue, s)
			}
		}
	}
	return len(found)
}

// TestOf compares the automata of expressions with regex.Match, and with the definition of canonical automata (P5.2, P5.4).
func TestOf(t *testing.T) {
	x := random(7)
	all := words("abc\xff", 5)
	for range 400 {
		r := someRegex(&x, 1+x.below(5))
		l, e := automaton.Of(r)
		if e != api.OK {
			if countSets(r) <= 500 {
				t.Fatalf("Of(%v): %d", r, e)
			}
			continue
		}
		if f := fault(l.States); f != "" || !automaton.Valid(l) {
			t.Fatalf("Of(%v): %v: %s", r, l, f)
		}
		for _, s := range all {
			if want := regex.Match(r, s); automaton.Accepts(l, s) != want || accepts(l.States, s) != want {
				t.Fatalf("Of(%v) and Match differ in %q", r, s)
			}
		}
	}
	for _, c := range [][]string{
		{"a+b?", "aa*|a+b", "aa*(b|())"}, {".*", "(.|..)*", "(.*)*", "[^a]*(a[^a]*)*"}, {"[]", "a[]", "[]b", "([]|[])c"}, {"()", "[]*", "()*", "()()"}, {"(a|b)*abb", "(a*b*)*abb", "(b|a)*a(b)b"}, {"\\x00|[\\x01-\\xff]", "."}, {"(ab)*a", "a(ba)*"}, {"[a-m]|[n-z]", "[a-z]"},
	} {
		for _, s := range c {
			if !automaton.Same(of(t, s), of(t, c[0])) {
				t.Errorf("Of(%s) is not Of(%s)", s, c[0])
			}
		}
	}
	if l := of(t, "(a|b)*abb"); len(l.States) != 4 {
		t.Errorf("(a|b)*abb: %v", l)
	}
}

// TestLimits checks expressions with as many states, and as many sets of positions, as are permitted, and with more (P5.2).
func TestLimits(t *testing.T) {
	a := one('a', 'a')
	repeat := func(r api.Regex, n int) []api.Regex { return slices.Repeat([]api.Regex{r}, n) }
	chain := func(n int, last ...api.Regex) api.Regex { return part(api.Cat, append(repeat(a, n), last...)...) }
	nothing, empty := part(api.Nothing), part(api.Empty)
	optional := part(api.Alt, a, empty)
	for i, c := range []struct {
		r      api.Regex
		e      api.Errno
		states int
	}{
		{chain(199), api.OK, 200}, {chain(200), api.ErrLimit, 0}, {chain(5000), api.ErrLimit, 0},
		{chain(500, nothing), api.OK, 0}, {chain(501, nothing), api.ErrLimit, 0},
		{part(api.Cat, nothing, chain(501)), api.OK, 0}, {part(api.Alt, chain(501, nothing), a), api.ErrLimit, 0},
		{part(api.Alt, chain(500, nothing), a), api.OK, 2}, // the first a leads to the two positions
		{part(api.Alt, chain(499, nothing), one('b', 'b')), api.OK, 2}, {part(api.Alt, chain(500, nothing), one('b', 'b')), api.ErrLimit, 0},
		{part(api.Star, chain(200)), api.OK, 200}, {part(api.Star, chain(201)), api.ErrLimit, 0},
		{chain(500, api.Regex{Kind: api.OneOf}), api.OK, 0}, // no byte can be read at the last position
		{part(api.Alt, repeat(part(api.Star, a), 600)...), api.OK, 1},
		{part(api.Cat, repeat(optional, 199)...), api.OK, 200}, {part(api.Cat, repeat(optional, 200)...), api.ErrLimit, 0},
		{part(api.Star, part(api.Alt, repeat(one(0, 255), 3000)...)), api.OK, 1},
	} {
		l, e := automaton.Of(c.r)
		if e != c.e || len(l.States) != c.states {
			t.Errorf("case %d: %d states, %d, want %d, %d", i, len(l.States), e, c.states, c.e)
		}
	}
	// A byte that is n places before the end must be remembered: 2^(n+1) states.
	for n, e := range map[int]api.Errno{6: api.OK, 7: api.ErrLimit, 8: api.ErrLimit, 9: api.ErrLimit} {
		if l, got := automaton.Of(parse(t, ".*a"+strings.Repeat(".", n))); got != e || e == api.OK && len(l.States) != 1<<(n+1) {
			t.Errorf("%d: %d states, %d", n, len(l.States), got)
		}
	}
	// An expression that matches nothing has no states, but as many sets of positions as without its end.
	for n, want := range map[int]api.Errno{6: api.OK, 7: api.OK, 8: api.ErrLimit} {
		r := parse(t, ".*a"+strings.Repeat(".", n)+"[]")
		sets := countSets(r)
		if l, e := automaton.Of(r); e != want || len(l.States) != 0 || sets > 500 != (e == api.ErrLimit) {
			t.Errorf("%d: %d states, %d, %d sets", n, len(l.States), e, sets)
		}
	}
	for _, c := range []struct {
		r api.Regex
		e api.Errno
	}{{part(6), api.ErrKind}, {part(api.Cat, a), api.ErrSize}, {part(api.Cat, chain(600), part(-1)), api.ErrKind}, {part(api.Star), api.ErrSize}, {parse(t, "a"+strings.Repeat("*", 15)), api.OK}, {part(api.Star, parse(t, "a"+strings.Repeat("*", 15))), api.ErrDepth}} {
		if l, e := automaton.Of(c.r); e != c.e || e != api.OK && len(l.States) != 0 {
			t.Errorf("%v: %v, %d, want %d", c.r.Kind, l, e, c.e)
		}
	}
}

// TestWord checks the automata of all strings and of single ones (P5.3).
func TestWord(t *testing.T) {
	all := automaton.All()
	for _, s := range words("abc\x00\xff", 4) {
		l := automaton.Word(s)
		if fault(l.States) != "" || !automaton.Valid(l) || !automaton.Accepts(l, s) || automaton.Accepts(l, s+"a") || !automaton.Accepts(all, s) {
			t.Errorf("Word(%q): %v", s, l)
		}
		if s != "" && (automaton.Accepts(l, s[1:]) || automaton.Accepts(l, s[:len(s)-1]+"d")) {
			t.Errorf("Word(%q): %v", s, l)
		}
	}
	if !automaton.Valid(all) || fault(all.States) != "" || !automaton.Same(all, of(t, ".*")) || !automaton.Same(automaton.Word("a.b"), of(t, "a\\.b")) || !automaton.Same(automaton.Word(""), of(t, "()")) {
		t.Error("All and Word are not the automata of their expressions")
	}
	long := strings.Repeat("abcdefghij\x00\xff", 10000)
	l := automaton.Word(long)
	if len(l.States) != len(long)+1 || !automaton.Valid(l) || !automaton.Accepts(l, long) || automaton.Accepts(l, long[1:]) {
		t.Error("a long word")
	}
	// The results share no memory.
	l.States[0].Edges[0].To = 7
	if !automaton.Valid(automaton.Word(long)) {
		t.Error("Word returns memory that it returned before")
	}
}

// TestLarge checks that large tables are not too slow: two letters that lead through a cycle of states, in which only a few accept.
func TestLarge(t *testing.T) {
	n := 100000
	l := make([]api.State, n)
	for i := range l {
		l[i] = api.State{Accept: i%5000 == 0, Edges: []api.Edge{{Lo: 0, Hi: 'a', To: (i + 1) % n}, {Lo: 'b', Hi: 255, To: (i + 2) % n}}}
	}
	if m, e := automaton.Minimal(l); e != api.OK || len(m.States) != 5000 {
		t.Errorf("%d states, %d", len(m.States), e)
	}
}
