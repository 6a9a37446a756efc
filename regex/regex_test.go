package regex_test

import (
	"reflect"
	"strings"
	"testing"

	"configlang/api"
	"configlang/byteset"
	"configlang/regex"
)

// random returns numbers that are the same in each run.
type random uint64

func (x *random) below(n int) int {
	*x = *x*6364136223846793005 + 1442695040888963407
	return int(uint64(*x)>>33) % n
}

// one returns the expression of a byte from lo to hi.
func one(lo, hi byte) api.Regex {
	return api.Regex{Kind: api.OneOf, Set: byteset.Of(lo, hi)}
}

// of returns an expression of a kind.
func of(kind int, subs ...api.Regex) api.Regex {
	return api.Regex{Kind: kind, Subs: subs}
}

// nest returns r inside n further levels.
func nest(r api.Regex, n int) api.Regex {
	for range n {
		r = of(api.Star, r)
	}
	return r
}

// some returns a valid expression with at most the given number of levels, mostly over the bytes a, b and c.
func some(x *random, levels int) api.Regex {
	kind := x.below(6)
	if levels == 1 {
		kind = x.below(8)
		if kind > api.OneOf {
			kind = api.OneOf
		}
	}
	switch kind {
	case api.OneOf:
		sets := []api.Bytes{byteset.Of('a', 'a'), byteset.Of('b', 'b'), byteset.Of('a', 'b'), byteset.Of('b', 'c'), byteset.Of(0, 255), {}, byteset.Not(byteset.Of('a', 'a'))}
		return api.Regex{Kind: api.OneOf, Set: sets[x.below(len(sets))]}
	case api.Cat, api.Alt:
		r := of(kind)
		for range 2 + x.below(2) {
			r.Subs = append(r.Subs, some(x, levels-1))
		}
		return r
	case api.Star:
		return of(kind, some(x, levels-1))
	}
	return of(kind)
}

// levels returns the number of levels of r.
func levels(r api.Regex) int {
	n := 0
	for _, sub := range r.Subs {
		n = max(n, levels(sub))
	}
	return n + 1
}

// ends returns where parts of s that begin at one of the offsets and are matched by r end: the definition, apart from the package.
func ends(r api.Regex, s string, from []bool) []bool {
	to := make([]bool, len(s)+1)
	switch r.Kind {
	case api.Empty:
		copy(to, from)
	case api.OneOf:
		for i := range len(s) {
			to[i+1] = from[i] && byteset.Has(r.Set, s[i])
		}
	case api.Alt:
		for _, sub := range r.Subs {
			for i, ok := range ends(sub, s, from) {
				to[i] = to[i] || ok
			}
		}
	case api.Cat:
		copy(to, from)
		for _, sub := range r.Subs {
			to = ends(sub, s, to)
		}
	case api.Star:
		copy(to, from)
		for again := true; again; {
			again = false
			for i, ok := range ends(r.Subs[0], s, to) {
				if ok && !to[i] {
					to[i], again = true, true
				}
			}
		}
	}
	return to
}

// matches is the definition of Match.
func matches(r api.Regex, s string) bool {
	from := make([]bool, len(s)+1)
	from[0] = true
	return ends(r, s, from)[len(s)]
}

// words returns all strings over the bytes a, b, c and 0xff with at most n bytes.
func words(n int) []string {
	l := []string{""}
	last := l
	for range n {
		var next []string
		for _, s := range last {
			for _, c := range []string{"a", "b", "c", "\xff"} {
				next = append(next, s+c)
			}
		}
		l = append(l, next...)
		last = next
	}
	return l
}

// invalid returns expressions that are not valid, with their errors.
func invalid() map[api.Errno][]api.Regex {
	a := one('a', 'a')
	set := byteset.Of('a', 'a')
	return map[api.Errno][]api.Regex{
		api.ErrDepth: {nest(a, 16), nest(of(7), 16), nest(of(api.Star), 16), of(api.Alt, nest(a, 15), a, of(9)), nest(of(api.Cat, nest(of(api.Nothing), 15), a), 1)},
		api.ErrKind: {of(6), of(-1), of(1 << 40), of(6, a, a), {Kind: api.Star, Set: set, Subs: []api.Regex{a}}, {Kind: api.Nothing, Set: set}, {Kind: api.Empty, Set: set}, {Kind: api.Alt, Set: set}, {Kind: api.Cat, Set: set, Subs: []api.Regex{a, a}},
			of(api.Cat, a, of(6)), of(api.Alt, of(6), of(api.Star)), of(api.Cat, of(6), nest(a, 15)), nest(of(6), 15)},
		api.ErrSize: {of(api.Cat), of(api.Cat, a), of(api.Alt), of(api.Alt, a), of(api.Star), of(api.Star, a, a), of(api.Nothing, a), of(api.Empty, a), {Kind: api.OneOf, Set: set, Subs: []api.Regex{a}},
			of(api.Star, of(6), of(6)), of(api.Cat, a, of(api.Star)), of(api.Alt, of(api.Star), of(6)), nest(of(api.Star), 15), of(api.Star, nest(a, 15), a)},
	}
}

// TestCheck checks valid and invalid expressions, and which error comes first (P4.1).
func TestCheck(t *testing.T) {
	a := one('a', 'z')
	for n, l := range [][]api.Regex{
		1: {{}, of(api.Empty), a, {Kind: api.OneOf}, {Kind: api.OneOf, Set: byteset.Of(0, 255), Subs: []api.Regex{}}},
		2: {of(api.Star, a)},
		3: {of(api.Cat, a, a), of(api.Alt, a, of(api.Nothing)), nest(of(api.Empty), 2)},
		7: {of(api.Alt, of(api.Cat, a, a, a), of(api.Star, a))},
	} {
		for _, r := range l {
			if e := regex.Check(r); e != api.OK || regex.Size(r) != n {
				t.Errorf("Check(%v): %d, Size %d, want %d", r, e, regex.Size(r), n)
			}
		}
	}
	if r := nest(a, 15); regex.Check(r) != api.OK || regex.Size(r) != 16 {
		t.Errorf("16 levels: %d, %d", regex.Check(r), regex.Size(r))
	}
	for e, l := range invalid() {
		for _, r := range l {
			if got := regex.Check(r); got != e || regex.Size(r) != 0 {
				t.Errorf("Check(%v): %d, Size %d, want %d and 0", r, got, regex.Size(r), e)
			}
		}
	}
}

// TestInvalid checks what is returned for expressions that are not valid (P4.3, P4.4).
func TestInvalid(t *testing.T) {
	for e, l := range invalid() {
		for _, r := range l {
			if s, got := regex.Text(r); s != "" || got != e {
				t.Errorf("Text(%v): %q, %d, want %d", r, s, got, e)
			}
			if regex.Nullable(r) || regex.Match(r, "") || regex.Match(r, "a") {
				t.Errorf("an invalid expression matches: %v", r)
			}
			if d := regex.Derive(r, 'a'); d.Kind != 0 || d.Set != (api.Bytes{}) || d.Subs != nil {
				t.Errorf("Derive(%v): %v", r, d)
			}
		}
	}
	// These would match if they were not examined as a whole.
	late := of(api.Alt, of(api.Empty), one('a', 'a'), of(9))
	if regex.Nullable(late) || regex.Match(late, "") || regex.Match(late, "a") || regex.Derive(late, 'a').Kind != api.Nothing {
		t.Error("an invalid part behind others")
	}
}

// TestMatch compares Match, Nullable and Derive with the definition (P4.4, P4.5).
func TestMatch(t *testing.T) {
	x := random(1)
	l := words(4)
	for range 1500 {
		r := some(&x, 1+x.below(5))
		for _, s := range l {
			want := matches(r, s)
			if regex.Match(r, s) != want {
				t.Fatalf("Match(%v, %q): want %v", r, s, want)
			}
			if s == "" && regex.Nullable(r) != want {
				t.Fatalf("Nullable(%v): want %v", r, want)
			}
		}
		for _, b := range []byte{'a', 'b', 'c', 0xff} {
			d := regex.Derive(r, b)
			if regex.Check(d) != api.OK {
				t.Fatalf("Derive(%v, %q) is not valid", r, b)
			}
			for _, s := range l[:85] {
				if matches(d, s) != matches(r, string([]byte{b})+s) {
					t.Fatalf("Derive(%v, %q) and %q", r, b, s)
				}
			}
		}
	}
}

// TestMatchBytes checks each byte with single bytes, ranges and their edges (P4.4).
func TestMatchBytes(t *testing.T) {
	r := of(api.Cat, api.Regex{Kind: api.OneOf, Set: api.Bytes{1, 1 << 63, 0, 1 << 63}}, one('a', 'b'))
	for b := range 256 {
		want := b == 0 || b == 127 || b == 255
		s := string([]byte{byte(b)})
		if regex.Match(r, s+"a") != want || regex.Match(r, s) || regex.Match(r, s+"ab") || regex.Match(r, "a"+s) {
			t.Errorf("byte %d", b)
		}
		if d := regex.Derive(r, byte(b)); regex.Match(d, "a") != want || regex.Match(d, "") {
			t.Errorf("Derive by byte %d: %v", b, d)
		}
	}
}

// TestLongMatch checks expressions for which a search that goes back would not end (P4.4).
func TestLongMatch(t *testing.T) {
	many := strings.Repeat("a", 20000)
	for text, ends := range map[string]string{"(a|a)*b": "b", "((a*)*)*b": "b", "(a|aa|aaa)*c": "c", "(a*a*a*a*a*)*(b|c)": "c", "(a?a?a?)*b": "b"} {
		r, f := regex.Parse(text)
		if f != (api.Fault{}) || !regex.Match(r, many+ends) || regex.Match(r, many) || regex.Match(r, many+"x") {
			t.Errorf("%s: %v", text, f)
		}
	}
	r, _ := regex.Parse(strings.Repeat("a?", 40) + strings.Repeat("a", 40))
	for n := range 100 {
		if regex.Match(r, strings.Repeat("a", n)) != (40 <= n && n <= 80) {
			t.Errorf("%d bytes", n)
		}
	}
}

// TestDeriveLevels checks that Derive is valid for expressions of up to 8 levels (P4.4).
func TestDeriveLevels(t *testing.T) {
	x := random(2)
	a := one('a', 'a')
	deep := a
	for deep, n := of(api.Alt, a, of(api.Empty)), 2; n <= 8; n++ {
		for _, b := range []byte("ab") {
			if d := regex.Derive(deep, b); regex.Check(d) != api.OK {
				t.Errorf("Derive of %d levels has %d", n, levels(d))
			}
		}
		if n%2 == 0 {
			deep = of(api.Cat, deep, deep)
		} else {
			deep = of(api.Star, deep)
		}
	}
	for range 7 {
		deep = of(api.Cat, of(api.Empty), deep)
	}
	if d := regex.Derive(deep, 'a'); levels(deep) != 8 || regex.Check(d) != api.OK || !regex.Nullable(d) {
		t.Errorf("Derive of a concatenation with 8 levels: %v", d)
	}
	for range 300 {
		r := some(&x, 8)
		if d := regex.Derive(r, 'a'); levels(r) <= 8 && regex.Check(d) != api.OK {
			t.Fatalf("Derive(%v) has %d levels", r, levels(d))
		}
	}
	// Nested more deeply, the expression still is the right one.
	r := nest(of(api.Cat, a, one('b', 'b')), 14)
	if d := regex.Derive(r, 'a'); levels(r) != 16 || !matches(d, "b") || !matches(d, "bab") || matches(d, "") || matches(d, "ab") {
		t.Errorf("Derive of 16 levels: %v", d)
	}
}

// TestChain checks that Match is Nullable of the derivatives (P4.5).
func TestChain(t *testing.T) {
	x := random(3)
	for range 400 {
		r := some(&x, 1+x.below(5))
		s := strings.Repeat("ab", x.below(3)) + []string{"", "a", "b", "c", "aa", "cab"}[x.below(6)]
		d, valid := r, true
		for i := range len(s) {
			d = regex.Derive(d, s[i])
			valid = valid && regex.Check(d) == api.OK
		}
		if valid && regex.Nullable(d) != regex.Match(r, s) {
			t.Fatalf("the derivatives of %v by %q", r, s)
		}
	}
	r, _ := regex.Parse("((a|b)*a(a|b)?(a|b)?(ab)*)*c")
	s := strings.Repeat("aabab", 40)
	for i := range len(s) {
		r = regex.Derive(r, s[i])
		if regex.Check(r) != api.OK || regex.Size(r) > 1000 {
			t.Fatalf("after %d bytes, the derivative has the size %d", i+1, regex.Size(r))
		}
	}
	if regex.Nullable(r) || !regex.Nullable(regex.Derive(r, 'c')) {
		t.Error("the derivative by a long string")
	}
}

// TestLaws checks that Alt is commutative, Cat associative, and Star repeats (P4.5).
func TestLaws(t *testing.T) {
	x := random(4)
	l := words(3)
	for range 300 {
		p, q, r := some(&x, 3), some(&x, 3), some(&x, 2)
		pq, pqr := of(api.Cat, p, q), of(api.Cat, p, q, r)
		rep := of(api.Star, p)
		for _, s := range l {
			if regex.Match(of(api.Alt, p, q, r), s) != regex.Match(of(api.Alt, r, q, p), s) {
				t.Fatalf("alternatives %v, %v, %v and %q", p, q, r, s)
			}
			if regex.Match(of(api.Cat, pq, r), s) != regex.Match(of(api.Cat, p, of(api.Cat, q, r)), s) || regex.Match(pqr, s) != regex.Match(of(api.Cat, pq, r), s) {
				t.Fatalf("concatenations of %v, %v, %v and %q", p, q, r, s)
			}
			for _, u := range l[:21] {
				if regex.Match(rep, s) && regex.Match(rep, u) && !regex.Match(rep, s+u) {
					t.Fatalf("repetitions of %v: %q and %q", p, s, u)
				}
			}
		}
	}
}

// shared reports whether two slices of r share memory, by changing one and looking at the other.
func shared(r *api.Regex, seen map[*api.Regex]bool) bool {
	for i := range r.Subs {
		if seen[&r.Subs[i]] || shared(&r.Subs[i], seen) {
			return true
		}
		seen[&r.Subs[i]] = true
	}
	return false
}

// TestMemory checks that results share no memory with arguments or in themselves, and that arguments are not changed.
func TestMemory(t *testing.T) {
	r, _ := regex.Parse("((ab*|c)+(a|b)+)+")
	same, _ := regex.Parse("((ab*|c)+(a|b)+)+")
	seen := map[*api.Regex]bool{}
	if shared(&r, seen) {
		t.Error("parts of what Parse returns share memory")
	}
	for _, s := range []string{"a", "ab", "ca", "caabc"} {
		d := r
		for i := range len(s) {
			d = regex.Derive(d, s[i])
		}
		if shared(&d, seen) {
			t.Errorf("the derivative by %q shares memory", s)
		}
		regex.Match(r, s)
	}
	regex.Text(r)
	if !reflect.DeepEqual(r, same) {
		t.Error("an argument is changed")
	}
}
