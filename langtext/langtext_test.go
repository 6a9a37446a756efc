package langtext_test

import (
	"reflect"
	"slices"
	"strconv"
	"strings"
	"testing"

	"configlang/api"
	"configlang/automaton"
	"configlang/lang"
	"configlang/langtext"
	"configlang/regex"
)

// random returns numbers that are the same in each run.
type random uint64

func (x *random) below(n int) int {
	*x = *x*6364136223846793005 + 1442695040888963407
	return int(uint64(*x)>>33) % n
}

// minimal returns the automaton of a table.
func minimal(t *testing.T, states []api.State) api.Lang {
	t.Helper()
	l, e := automaton.Minimal(states)
	if e != api.OK {
		t.Fatalf("Minimal(%v): %d", states, e)
	}
	return l
}

// edges returns the number of edges of an automaton.
func edges(l api.Lang) int {
	n := 0
	for _, s := range l.States {
		n += len(s.Edges)
	}
	return n
}

// clone returns a copy of an automaton.
func clone(l api.Lang) api.Lang {
	m := api.Lang{States: slices.Clone(l.States)}
	for i := range m.States {
		m.States[i].Edges = slices.Clone(m.States[i].Edges)
	}
	return m
}

// positions is an expression whose bytes are numbered, and which of them can follow which: another way to read it, without limits of levels and states.
type positions struct {
	sets   []api.Bytes
	follow map[int][]int // of -1 the first ones
	last   map[int]bool  // -1 if the expression matches the empty string
}

// ends are the positions at which a part of an expression begins and ends, and whether it matches the empty string.
type ends struct {
	first, last []int
	nullable    bool
}

// read reads a part of an expression.
func (p *positions) read(r api.Regex) ends {
	switch r.Kind {
	case api.Empty:
		return ends{nullable: true}
	case api.OneOf:
		p.sets = append(p.sets, r.Set)
		n := []int{len(p.sets) - 1}
		return ends{first: n, last: n}
	case api.Star:
		x := p.read(r.Subs[0])
		p.connect(x.last, x.first)
		return ends{first: x.first, last: x.last, nullable: true}
	case api.Alt:
		var x ends
		for _, sub := range r.Subs {
			y := p.read(sub)
			x = ends{first: slices.Concat(x.first, y.first), last: slices.Concat(x.last, y.last), nullable: x.nullable || y.nullable}
		}
		return x
	case api.Cat:
		x := ends{nullable: true}
		for _, sub := range r.Subs {
			y := p.read(sub)
			p.connect(x.last, y.first)
			if x.nullable {
				x.first = slices.Concat(x.first, y.first)
			}
			if y.nullable {
				y.last = slices.Concat(x.last, y.last)
			}
			x = ends{first: x.first, last: y.last, nullable: x.nullable && y.nullable}
		}
		return x
	}
	return ends{}
}

// connect adds pairs of positions that can follow each other.
func (p *positions) connect(from, to []int) {
	for _, n := range from {
		p.follow[n] = append(p.follow[n], to...)
	}
}

// automatonOf returns the automaton of an expression that reads some bytes only.
func automatonOf(t *testing.T, r api.Regex, bytes string) api.Lang {
	t.Helper()
	p := &positions{follow: map[int][]int{}, last: map[int]bool{}}
	x := p.read(r)
	p.connect([]int{-1}, x.first)
	for _, n := range x.last {
		p.last[n] = true
	}
	p.last[-1] = x.nullable
	numbers := map[string]int{"[-1]": 0}
	sets := [][]int{{-1}}
	var states []api.State
	for i := 0; i < len(sets); i++ {
		s := api.State{Accept: slices.ContainsFunc(sets[i], func(n int) bool { return p.last[n] })}
		for _, b := range []byte(bytes) {
			var next []int
			for _, n := range sets[i] {
				for _, m := range p.follow[n] {
					if p.sets[m][b/64]>>(b%64)&1 == 1 {
						next = append(next, m)
					}
				}
			}
			slices.Sort(next)
			next = slices.Compact(next)
			key := ""
			for _, n := range next {
				key += strconv.Itoa(n) + " "
			}
			if _, ok := numbers[key]; !ok {
				numbers[key] = len(sets)
				sets = append(sets, next)
			}
			s.Edges = append(s.Edges, api.Edge{Lo: b, Hi: b, To: numbers[key]})
		}
		states = append(states, s)
	}
	return minimal(t, states)
}

// checkText checks that l has a text, which Parse reads, and an expression.
func checkText(t *testing.T, l api.Lang) string {
	t.Helper()
	s, e := langtext.Text(l)
	if e != api.OK || len(s) > 1000 {
		t.Fatalf("Text(%v): %q, %d", l, s, e)
	}
	if m, f := langtext.Parse(s); f != (api.Fault{}) || !automaton.Same(l, m) {
		t.Fatalf("Text(%v): %q, which is %v, %v", l, s, m, f)
	}
	r, e := langtext.Regex(l)
	if e != api.OK {
		t.Fatalf("Regex(%v): %d", l, e)
	}
	if m, e := automaton.Of(r); e != api.OK || !automaton.Same(l, m) {
		t.Fatalf("Regex(%v): %v, which is %v, %d", l, r, m, e)
	}
	return s
}

// TestExample checks the example of the chapter, and the simplest sets.
func TestExample(t *testing.T) {
	ab, f := langtext.Parse("b|a")
	if f != (api.Fault{}) || !automaton.Same(ab, lang.Or(automaton.Word("a"), automaton.Word("b"))) {
		t.Fatalf("Parse: %v, %v", ab, f)
	}
	for _, l := range []api.Lang{ab, {}, automaton.All(), automaton.Word(""), automaton.Word("a"), lang.Not(automaton.Word("")), lang.Not(ab)} {
		checkText(t, l)
	}
}

// TestFewStates checks that all sets of at most 3 states and 6 edges have a text (P7.1, P7.3).
func TestFewStates(t *testing.T) {
	// The bytes are those whose texts are longest.
	ranges := [][2]byte{{0x80, 0x9f}, {0xc0, 0xfe}}
	found := 0
	for n := range 8 << 12 {
		states := make([]api.State, 3)
		for i := range states {
			states[i].Accept = n>>i&1 == 1
			for j, r := range ranges {
				if to := n >> (3 + 4*i + 2*j) & 3; to < 3 {
					states[i].Edges = append(states[i].Edges, api.Edge{Lo: r[0], Hi: r[1], To: to})
				}
			}
		}
		if l := minimal(t, states); len(l.States) == 3 || n%16 == 0 {
			checkText(t, l)
			found++
		}
	}
	if found < 5000 {
		t.Errorf("%d sets", found)
	}
}

// TestFewEdges checks the same for random sets with up to 6 edges anywhere, also several from one state to another one (P7.1).
func TestFewEdges(t *testing.T) {
	x := random(7)
	for range 8000 {
		states := make([]api.State, 3)
		for i := range states {
			states[i].Accept = x.below(2) == 0
		}
		for range 6 {
			s := &states[x.below(3)]
			lo := 1
			if n := len(s.Edges); n > 0 {
				lo = int(s.Edges[n-1].Hi) + 1 + x.below(2)
			}
			lo += x.below(40)
			hi := lo + x.below(40)
			if hi < 255 {
				s.Edges = append(s.Edges, api.Edge{Lo: byte(lo), Hi: byte(hi), To: x.below(3)})
			}
		}
		l := minimal(t, states)
		if edges(l) > 6 {
			t.Fatalf("%v has more edges than its table", l)
		}
		checkText(t, l)
	}
}

// TestFewWords checks that all sets of at most 6 strings of at most 6 bytes have a text (P7.1, P7.3).
func TestFewWords(t *testing.T) {
	x := random(17)
	for range 4000 {
		var l api.Lang
		letters := []int{2, 3, 256}[x.below(3)]
		for range x.below(7) {
			w := make([]byte, x.below(7))
			for i := range w {
				w[i] = byte(255 - x.below(letters))
			}
			l = lang.Or(l, automaton.Word(string(w)))
		}
		checkText(t, l)
	}
	long := api.Lang{}
	for i := range 6 {
		long = lang.Or(long, automaton.Word("\x80\x81\x82\x83\x84"+string([]byte{byte(0x85 + 2*i)})))
	}
	checkText(t, long)
	checkText(t, lang.Not(long))
}

// TestLarger checks that texts are read as the same set, and expressions match the same strings, for larger sets (P7.1, P7.3).
func TestLarger(t *testing.T) {
	x := random(27)
	without, deep := 0, 0
	for i := range 400 {
		states := make([]api.State, 2+x.below(4+i/11))
		for j := range states {
			states[j].Accept = x.below(3) == 0
			for _, b := range []byte("abc") {
				if x.below(3) > 0 {
					states[j].Edges = append(states[j].Edges, api.Edge{Lo: b, Hi: b, To: x.below(len(states))})
				}
			}
		}
		l := minimal(t, states)
		before := clone(l)
		s, e := langtext.Text(l)
		if m, f := langtext.Parse(s); e == api.OK && (f != (api.Fault{}) || !automaton.Same(l, m)) {
			t.Fatalf("Text(%v): %q, which is %v, %v", l, s, m, f)
		}
		if e != api.OK && (e != api.ErrLimit || s != "") {
			t.Fatalf("Text(%v): %q, %d", l, s, e)
		}
		r, re := langtext.Regex(l)
		if m := automatonOf(t, r, "abc"); re != api.OK || !automaton.Same(l, m) {
			t.Fatalf("Regex(%v): %v, which is %v, %d", l, r, m, re)
		}
		if e != api.OK {
			without++
			if regex.Check(r) == api.ErrDepth {
				deep++
			}
		}
		if !reflect.DeepEqual(l, before) {
			t.Fatalf("%v is changed", before)
		}
	}
	if without < 20 || without > 300 || deep == 0 {
		t.Errorf("%d sets without a text, %d deep expressions", without, deep)
	}
}

// TestCandidates checks that each way to find an expression gives one of the same set (P7.1).
func TestCandidates(t *testing.T) {
	x := random(47)
	listed := 0
	for range 1500 {
		states := make([]api.State, 1+x.below(8))
		forward := x.below(3) == 0
		for j := range states {
			states[j].Accept = x.below(2) == 0
			for _, b := range []byte("abc") {
				to := x.below(len(states))
				if x.below(3) > 0 && (!forward || to > j) {
					states[j].Edges = append(states[j].Edges, api.Edge{Lo: b, Hi: b, To: to})
				}
			}
		}
		l := minimal(t, states)
		all := langtext.Candidates(l)
		if len(all) == 6 {
			listed++
		}
		for i, r := range all {
			if m := automatonOf(t, r, "abc"); !automaton.Same(l, m) {
				t.Fatalf("way %d: %v: %v, which is %v", i, l, r, m)
			}
		}
		if len(all) != 4 && (len(all) != 6 || !lang.Finite(l)) {
			t.Fatalf("%v: %d expressions", l, len(all))
		}
	}
	if listed < 300 {
		t.Errorf("%d finite sets", listed)
	}
}

// TestShort checks that texts are not much longer than necessary, so that larger sets have one, too.
func TestShort(t *testing.T) {
	for s, most := range map[string]int{
		"a+":                                    2,
		"(ab)+":                                 8,
		"abc|abd|axd":                           13,
		"a?b?c?d?":                              28,
		".*abc.*":                               44,
		"(a|b)*a(a|b)(a|b)":                     62,
		"(ab|cd)*e|f":                           14,
		"[a-z]+(-[a-z]+)*":                      16,
		"\\d+(\\.\\d+)?":                        11,
		"((a+b)+c)+":                            15,
		"(abcdef|ghijkl|abcxyz)?":               29,
		"(0|1(01*0)*1)*":                        14,
		".*(abc|bcd).*":                         250,
		"(a|b|c)(a|b|c)(a|b|c)|(a|b)(a|c)":      40,
		"\\x00+\\xff?|(\\x80|\\x81\\x82)\\x83*": 50,
	} {
		l, f := langtext.Parse(s)
		if f != (api.Fault{}) {
			t.Fatalf("Parse(%q): %v", s, f)
		}
		if got := checkText(t, l); len(got) > most {
			t.Errorf("Text of %s: %s, %d bytes", s, got, len(got))
		}
	}
}

// levels returns the number of levels and of parts of an expression.
func levels(r api.Regex) (int, int) {
	deep, parts := 0, 1
	for _, sub := range r.Subs {
		d, p := levels(sub)
		deep, parts = max(deep, d), parts+p
	}
	return deep + 1, parts
}

// matches reports whether an expression of a few words matches a string: prefixes of it lead to sets of what is left to match.
func matches(r api.Regex, s string) bool {
	p := &positions{follow: map[int][]int{}, last: map[int]bool{}}
	x := p.read(r)
	p.connect([]int{-1}, x.first)
	now := []int{-1}
	for i := range len(s) {
		var next []int
		for _, n := range now {
			for _, m := range p.follow[n] {
				if p.sets[m][s[i]/64]>>(s[i]%64)&1 == 1 && !slices.Contains(next, m) {
					next = append(next, m)
				}
			}
		}
		now = next
	}
	return slices.ContainsFunc(now, func(n int) bool { return n < 0 && x.nullable || slices.Contains(x.last, n) })
}

// TestLong checks expressions of long strings (P7.1).
func TestLong(t *testing.T) {
	long := strings.Repeat("configlang", 6553)
	r, e := langtext.Regex(automaton.Word(long))
	if e != api.OK || r.Kind != api.Cat || len(r.Subs) != len(long) || !matches(r, long) || matches(r, long[1:]) || matches(r, long+"c") {
		t.Fatalf("Regex of a string of %d bytes: %d", len(long), e)
	}
	if s, e := langtext.Text(automaton.Word(long)); s != "" || e != api.ErrLimit {
		t.Errorf("Text of a string of %d bytes: %q, %d", len(long), s, e)
	}
	for _, n := range []int{300, 65530} {
		l, e := lang.Bound("<", long[:n])
		if e != api.OK {
			t.Fatal(e)
		}
		r, e := langtext.Regex(l)
		deep, parts := levels(r)
		if e != api.OK || deep > 1<<16 || parts > 1<<24 {
			t.Fatalf("Regex of a bound of %d bytes: %d, %d levels, %d parts", n, e, deep, parts)
		}
		if n > 300 {
			continue
		}
		for s, want := range map[string]bool{"": true, "b": true, "d": false, long[:n]: false, long[:n-1]: true, long[:n-1] + "\x00aa": true, long[:n-1] + "z": false, long[:100] + "zz": false, long[:100] + "Zz": true} {
			if matches(r, s) != want {
				t.Errorf("Regex of a bound: %q", s)
			}
		}
	}
}

// TestLimits checks what has no text (P7.1).
func TestLimits(t *testing.T) {
	checkText(t, automaton.Word(strings.Repeat("a", 199)))
	many := automaton.Word(strings.Repeat("a", 200)) // 201 states
	if s, e := langtext.Text(many); s != "" || e != api.ErrLimit {
		t.Errorf("Text: %q, %d", s, e)
	}
	if r, e := langtext.Regex(many); e != api.OK || len(r.Subs) != 200 {
		t.Errorf("Regex: %v, %d", r, e)
	}
}

// TestTooLarge checks that no memory is exhausted by sets that have no expression of a permitted size (P7.1).
func TestTooLarge(t *testing.T) {
	x := random(37)
	states := make([]api.State, 200)
	for i := range states {
		states[i].Accept = x.below(2) == 0
		for _, b := range []byte("abcd") {
			states[i].Edges = append(states[i].Edges, api.Edge{Lo: b, Hi: b, To: x.below(len(states))})
		}
	}
	l := minimal(t, states)
	if r, e := langtext.Regex(l); e != api.ErrLimit || !reflect.DeepEqual(r, api.Regex{}) {
		t.Errorf("Regex: %d", e)
	}
	if s, e := langtext.Text(l); e != api.ErrLimit || s != "" {
		t.Errorf("Text: %q, %d", s, e)
	}
}

// TestInvalid checks automata that are not canonical (P7.1).
func TestInvalid(t *testing.T) {
	for i, l := range []api.Lang{
		{States: []api.State{{}}},
		{States: []api.State{{Accept: true}, {Accept: true}}},
		{States: []api.State{{Accept: true, Edges: []api.Edge{{Lo: 'a', Hi: 'a', To: 1}}}}},
		{States: []api.State{{Accept: true, Edges: []api.Edge{{Lo: 'a', Hi: 'a', To: -1}}}}},
		{States: []api.State{{Accept: true, Edges: []api.Edge{{Lo: 'b', Hi: 'a', To: 0}}}}},
		{States: []api.State{{Accept: true, Edges: []api.Edge{{Lo: 'a', Hi: 'a'}, {Lo: 'b', Hi: 'b'}}}}},
	} {
		if r, e := langtext.Regex(l); e != api.ErrKind || !reflect.DeepEqual(r, api.Regex{}) {
			t.Errorf("Regex %d: %v, %d", i, r, e)
		}
		if s, e := langtext.Text(l); e != api.ErrKind || s != "" {
			t.Errorf("Text %d: %q, %d", i, s, e)
		}
	}
}

// TestParse checks Parse against automaton.Of, and its faults (P7.2).
func TestParse(t *testing.T) {
	for _, s := range []string{"a|b", "()", "[]", ".*", "(a+b)+c?", "[^x-z]*", "a{", "(", "a|", "[b-a]", "", "*", strings.Repeat("a", 1001), strings.Repeat("a", 200), strings.Repeat("(", 16) + "a" + strings.Repeat(")*", 16), "(a|b)*a" + strings.Repeat("(a|b)", 9)} {
		r, f := regex.Parse(s)
		var want api.Lang
		if f == (api.Fault{}) {
			want, f.Errno = automaton.Of(r)
		}
		l, g := langtext.Parse(s)
		if g != f || !automaton.Same(l, want) {
			t.Errorf("Parse(%q): %v, %v, want %v", s, l, g, f)
		}
	}
	if _, f := langtext.Parse(strings.Repeat("a", 200)); f != (api.Fault{Errno: api.ErrLimit}) {
		t.Errorf("Parse: %v", f)
	}
	if _, f := langtext.Parse("ab("); f != (api.Fault{Errno: api.ErrSyntax, At: 3}) {
		t.Errorf("Parse: %v", f)
	}
}

// TestMemory checks that no two lists of a result share memory.
func TestMemory(t *testing.T) {
	var l api.Lang
	for _, w := range []string{"ab", "cab", "dab", "abab", "xyzab", "ababab"} {
		l = lang.Or(l, automaton.Word(w))
	}
	for range 3 {
		l = lang.Or(l, automaton.Word(strings.Repeat("ab", 120)+string([]byte{byte('c' + len(l.States)%9)})))
	}
	seen := map[*api.Regex]bool{}
	var visit func(r api.Regex)
	visit = func(r api.Regex) {
		for i := range r.Subs {
			if seen[&r.Subs[i]] {
				t.Fatal("a part occurs twice")
			}
			seen[&r.Subs[i]] = true
			visit(r.Subs[i])
		}
	}
	r, e := langtext.Regex(l)
	if e != api.OK {
		t.Fatal(e)
	}
	visit(r)
}
