package regex_test

import (
	"reflect"
	"strings"
	"testing"

	"configlang/api"
	"configlang/byteset"
	"configlang/regex"
)

// TestParse checks the expressions of texts (P4.2).
func TestParse(t *testing.T) {
	a, b, c := one('a', 'a'), one('b', 'b'), one('c', 'c')
	full, digits := one(0, 255), one('0', '9')
	set := func(s string) api.Regex {
		var x api.Bytes
		for i := range len(s) {
			x = byteset.Or(x, byteset.Of(s[i], s[i]))
		}
		return api.Regex{Kind: api.OneOf, Set: x}
	}
	not := func(r api.Regex) api.Regex {
		return api.Regex{Kind: api.OneOf, Set: byteset.Not(r.Set)}
	}
	for s, want := range map[string]api.Regex{
		"a": a, "((a))": a, "()": of(api.Empty), "(())": of(api.Empty), "[]": of(api.Nothing), ".": full, "[a]": a, "^": set("^"), "-": set("-"), " ": set(" "), "~": set("~"), "\"": set("\""),
		"abc": of(api.Cat, a, b, c), "(ab)c": of(api.Cat, of(api.Cat, a, b), c), "a(bc)": of(api.Cat, a, of(api.Cat, b, c)),
		"a|b|c": of(api.Alt, a, b, c), "(a|b)|c": of(api.Alt, of(api.Alt, a, b), c), "ab|c?": of(api.Alt, of(api.Cat, a, b), of(api.Alt, c, of(api.Empty))), "a|()": of(api.Alt, a, of(api.Empty)), "a(b|c)": of(api.Cat, a, of(api.Alt, b, c)),
		"a*": of(api.Star, a), "a+": of(api.Cat, a, of(api.Star, a)), "a?": of(api.Alt, a, of(api.Empty)), "ab*": of(api.Cat, a, of(api.Star, b)), "(ab)*": of(api.Star, of(api.Cat, a, b)),
		"a**": nest(a, 2), "a*?": of(api.Alt, of(api.Star, a), of(api.Empty)), "a?*": of(api.Star, of(api.Alt, a, of(api.Empty))), "a+*": of(api.Star, of(api.Cat, a, of(api.Star, a))), "()*": of(api.Star, of(api.Empty)), "[]a": of(api.Cat, of(api.Nothing), a), "[]*": of(api.Star, of(api.Nothing)),
		"a++": of(api.Cat, of(api.Cat, a, of(api.Star, a)), of(api.Star, of(api.Cat, a, of(api.Star, a)))),
		`\d`:  digits, `\s`: set(" \t\n\r"), `\w`: set("_0123456789abcdefghijklmnopqrstuvwxyzABCDEFGHIJKLMNOPQRSTUVWXYZ"), `\d*`: of(api.Star, digits),
		`\n`: set("\n"), `\t`: set("\t"), `\r`: set("\r"), `\x00`: set("\x00"), `\xfF`: set("\xff"), `\x4a`: set("J"), `\x4A`: set("J"), `\x41B`: of(api.Cat, set("A"), set("B")),
		`\(`: set("("), `\)`: set(")"), `\[`: set("["), `\]`: set("]"), `\{`: set("{"), `\}`: set("}"), `\|`: set("|"), `\*`: set("*"), `\+`: set("+"), `\?`: set("?"), `\.`: set("."), `\\`: set(`\`), `\-`: set("-"), `\^`: set("^"),
		"[abc]": set("abc"), "[a-c]": set("abc"), "[a-a]": a, "[ca-b]": set("abc"), "[aa]": a, "[^a-c]": not(set("abc")), `[^\x00-\xff]`: {Kind: api.OneOf}, `[\x00-\xff]`: full,
		`[\^]`: set("^"), `[^\^]`: not(set("^")), `[\--\.]`: set("-."), `[a\-c]`: set("a-c"), `[\]\[]`: set("[]"), `[\n-\r]`: set("\n\v\f\r"), `[\.]`: set("."), `[ -\(]`: set(" !\"#$%&'("), `[Z-\\]`: set(`Z[\`), `[\\\x5d]`: set(`\]`), `[b-\x62]`: b, `[\(-\(]`: set("("), `[\x0a-\n]`: set("\n"), `[\^-\x5e]`: set("^"), `[b-\x63]`: set("bc"), `[\xf0-\xF1]`: set("\xf0\xf1"), "[a,b]": set("a,b"),
	} {
		if got, f := regex.Parse(s); f != (api.Fault{}) || regex.Check(got) != api.OK || !reflect.DeepEqual(plain(got), plain(want)) {
			t.Errorf("Parse(%s): %v, %v, want %v", s, got, f, want)
		}
	}
}

// plain returns r with nil instead of empty Subs.
func plain(r api.Regex) api.Regex {
	p := api.Regex{Kind: r.Kind, Set: r.Set}
	for _, sub := range r.Subs {
		p.Subs = append(p.Subs, plain(sub))
	}
	return p
}

// fails checks that Parse returns a fault, and nothing else.
func fails(t *testing.T, s string, want api.Fault) {
	t.Helper()
	if r, f := regex.Parse(s); f != want || r.Kind != 0 || r.Set != (api.Bytes{}) || r.Subs != nil {
		t.Errorf("Parse(%q): %v, %v, want %v", s, r, f, want)
	}
}

// TestParseFaults checks the offsets of syntax errors (P4.2).
func TestParseFaults(t *testing.T) {
	for s, at := range map[string]int{
		"": 0, "a|": 2, "(": 1, "(a": 2, "((a)": 4, "a|(": 3, "|": 0, "|a": 0, "a||b": 2, "(|a)": 1, "(a|)": 3, "(a||b)": 3, ")": 0, "a)": 1, "(a))": 3, "()())": 4,
		"*": 0, "+": 0, "?": 0, "a|*": 2, "(*)": 1, "(a)(+)": 4, "a(?": 2, "]": 0, "a]": 1, "{": 0, "}": 0, "a{2}": 1, "a\n": 1, "\x7f": 0, "a\x80": 1, "\x1f": 0, "\u00e9": 0, "\x00": 0,
		`\`: 1, `a\`: 2, `\q`: 1, `\x`: 2, `\x4`: 3, `\xg0`: 2, `\x4g`: 3, `\X41`: 1, `\D`: 1, `\1`: 1, `\"`: 1, "\\\n": 1, `\x-1`: 2, `\x4 `: 3, `\x@0`: 2, "\\x`0": 2, `\x/0`: 2, `\x:0`: 2, `\xG0`: 2,
		"[": 1, "[a": 2, "[^": 2, "[^]": 2, "[^^]": 2, "[a^]": 2, "[-a]": 1, "[a-]": 3, "[a-": 3, "[--a]": 1, "[a-b-c]": 4, "[b-a]": 3, "[[]": 1, "[a[]": 2, "[.]": 1, "[a.]": 2, "[(]": 1, "[)]": 1, "[{]": 1, "[}]": 1, "[|]": 1, "[*]": 1, "[+]": 1, "[?]": 1, "[\n]": 1, "[\x80]": 1, "[]]": 2, "[]a]": 3,
		`[\d]`: 2, `[\w]`: 2, `[a\s]`: 3, `[\`: 2, `[\x`: 3, `[\x4`: 4, `[\x4]`: 4, `[\q]`: 2, `[\]`: 3,
		`[b-\x5a]`: 5, `[b-\x61]`: 6, `[b-\x6`: 6, `[b-\x`: 5, `[b-\`: 4, `[b-\n]`: 4, `[b-\-]`: 4, `[b-\.]`: 4, `[\n-\t]`: 5, `[\x0d-\n]`: 7, "[z-a": 3, "[b-]": 3, "[b-^]": 3, `[~-\x7d]`: 6, `[\xff-\xfe]`: 9, `[\xff-\xef]`: 8, `[\xff-a]`: 6, `[\x80-\d]`: 7, `[a-\q]`: 4, "[a-[]": 3, "[a-.]": 3,
	} {
		fails(t, s, api.Fault{Errno: api.ErrSyntax, At: at})
	}
}

// TestParseLimits checks the limits of size and depth, and which error comes first (P4.2).
func TestParseLimits(t *testing.T) {
	a := one('a', 'a')
	for s, want := range map[string]api.Regex{
		strings.Repeat("a", 1000):                                       of(api.Cat, api.Regex{}),
		strings.Repeat("(", 499) + "a|" + strings.Repeat(")", 499):      {},
		strings.Repeat("(", 499) + "a" + strings.Repeat(")", 499):       a,
		"a" + strings.Repeat("*", 15):                                   nest(a, 15),
		strings.Repeat("(", 15) + "a" + strings.Repeat("*)", 15) + "()": of(api.Cat, nest(a, 15), of(api.Empty)),
	} {
		r, f := regex.Parse(s)
		switch {
		case strings.Contains(s, "|"):
			fails(t, s, api.Fault{Errno: api.ErrSyntax, At: 501})
		case strings.HasSuffix(s, "()"):
			fails(t, s, api.Fault{Errno: api.ErrDepth})
		case len(s) == 1000 && len(r.Subs) == 1000:
		case f != (api.Fault{}) || !reflect.DeepEqual(plain(r), plain(want)):
			t.Errorf("Parse(%s): %v, %v", s, r, f)
		}
	}
	for _, s := range []string{"a" + strings.Repeat("*", 16), "a" + strings.Repeat("+", 8), "a" + strings.Repeat("+", 998), "a" + strings.Repeat("?", 16), strings.Repeat("(", 200) + "a" + strings.Repeat("+)", 200), "a|" + strings.Repeat("(", 8) + "a" + strings.Repeat("|a)a", 8)} {
		fails(t, s, api.Fault{Errno: api.ErrDepth})
		fails(t, s[:len(s)-1]+"*|", api.Fault{Errno: api.ErrSyntax, At: len(s) + 1})
	}
	for _, s := range []string{strings.Repeat("a", 1001), strings.Repeat("(", 1001), strings.Repeat("\n", 1001), strings.Repeat("a*", 100000), strings.Repeat("(", 1000000)} {
		fails(t, s, api.Fault{Errno: api.ErrSize})
	}
	fails(t, strings.Repeat("(", 1000), api.Fault{Errno: api.ErrSyntax, At: 1000})
	if r, f := regex.Parse("a" + strings.Repeat("+", 7)); f != (api.Fault{}) || levels(r) != 15 || regex.Size(r) != 1<<7*3-2 {
		t.Errorf("seven times +: %v, %d parts", f, regex.Size(r))
	}
}

// grammar recognizes texts by the definition of the syntax, where each rule tries all ways to divide a text.
type grammar map[string]bool

// is reports whether s is a text of a rule.
func (g grammar) is(rule, s string) bool {
	key := rule + " " + s
	if _, ok := g[key]; !ok {
		g[key] = g.try(rule, s)
	}
	return g[key]
}

// split reports whether s is a text of the first rule followed by one of the second.
func (g grammar) split(first, second, s string) bool {
	for i := 1; i < len(s); i++ {
		if g.is(first, s[:i]) && g.is(second, s[i:]) {
			return true
		}
	}
	return false
}

func (g grammar) try(rule, s string) bool {
	n := len(s)
	if n == 0 {
		return false
	}
	switch rule {
	case "alternatives":
		for i := range n {
			if s[i] == '|' && g.is("concatenation", s[:i]) && g.is("alternatives", s[i+1:]) {
				return true
			}
		}
		return g.is("concatenation", s)
	case "concatenation":
		return g.is("piece", s) || g.split("piece", "concatenation", s)
	case "piece":
		return g.is("atom", s) || strings.ContainsAny(s[n-1:], "*+?") && g.is("piece", s[:n-1])
	case "atom":
		parens := s[0] == '(' && s[n-1] == ')' && n > 1 && (n == 2 || g.is("alternatives", s[1:n-1]))
		brackets := s[0] == '[' && s[n-1] == ']' && n > 1 && (n == 2 || g.is("items", s[1:n-1]) || s[1] == '^' && g.is("items", s[2:n-1]))
		return s == "." || s == `\d` || s == "^" || s == "-" || value(s) >= 0 || parens || brackets
	case "items":
		return g.is("item", s) || g.split("item", "items", s)
	case "item":
		for i := range n {
			if s[i] == '-' && value(s[:i]) >= 0 && value(s[i+1:]) >= value(s[:i]) {
				return true
			}
		}
		return value(s) >= 0
	}
	return false
}

// value returns the byte that s denotes within brackets, or -1.
func value(s string) int {
	if len(s) == 1 && strings.ContainsAny(s, "abd56x") {
		return int(s[0])
	}
	if len(s) == 2 && s[0] == '\\' && strings.ContainsAny(s[1:], `()[]{}|*+?.\-^`) {
		return int(s[1])
	}
	digit := map[byte]int{'a': 10, 'b': 11, 'd': 13, '5': 5, '6': 6}
	if len(s) == 4 && s[:2] == `\x` && digit[s[2]] > 0 && digit[s[3]] > 0 {
		return digit[s[2]]*16 + digit[s[3]]
	}
	return -1
}

// checkAll compares Parse with the grammar for all texts over an alphabet of at most n bytes of which only the last one may be a fault. Each text that can be continued needs at most so many more bytes.
func checkAll(t *testing.T, alphabet string, n, more int) {
	t.Helper()
	g := grammar{}
	begins := map[string]bool{}
	var all func(s string)
	all = func(s string) {
		if g.is("alternatives", s) {
			for i := range len(s) + 1 {
				begins[s[:i]] = true
			}
		}
		if len(s) < n+more {
			for i := range len(alphabet) {
				all(s + alphabet[i:i+1])
			}
		}
	}
	all("")
	var check func(s string)
	check = func(s string) {
		_, f := regex.Parse(s)
		want := api.Fault{}
		switch {
		case !begins[s]:
			want = api.Fault{Errno: api.ErrSyntax, At: len(s) - 1}
		case !g.is("alternatives", s):
			want = api.Fault{Errno: api.ErrSyntax, At: len(s)}
		}
		if f != want {
			t.Fatalf("Parse(%q): %v, want %v", s, f, want)
		}
		if begins[s] && len(s) < n {
			for i := range len(alphabet) {
				check(s + alphabet[i:i+1])
			}
		}
	}
	check("")
}

// TestGrammar compares Parse with the grammar for all short texts (P4.2).
func TestGrammar(t *testing.T) {
	checkAll(t, "a()|", 4, 4)
	checkAll(t, "a(*)", 4, 4)
	checkAll(t, `a[]^-`, 5, 2)
	checkAll(t, `[]-\5`, 4, 3)
	checkAll(t, `\x5ad.`, 4, 3)
}

// TestHexadecimalRanges checks the range of an item against each pair of bytes (P4.2).
func TestHexadecimalRanges(t *testing.T) {
	const digits = "0123456789abcdef"
	hex := func(b int) string { return `\x` + digits[b>>4:b>>4+1] + digits[b&15:b&15+1] }
	for lo := range 256 {
		for hi := range 256 {
			s := "[" + hex(lo) + "-" + hex(hi) + "]"
			r, f := regex.Parse(s)
			want := api.Fault{}
			switch {
			case hi>>4 < lo>>4:
				want = api.Fault{Errno: api.ErrSyntax, At: 8}
			case hi < lo:
				want = api.Fault{Errno: api.ErrSyntax, At: 9}
			}
			if f != want || r.Set != byteset.Of(byte(lo), byte(hi)) {
				t.Fatalf("Parse(%s): %v, %v", s, r, f)
			}
		}
	}
}

// TestText checks that texts are parsed to expressions that match the same strings (P4.3).
func TestText(t *testing.T) {
	x := random(5)
	l := words(4)
	for range 2000 {
		r := some(&x, 1+x.below(6))
		s, e := regex.Text(r)
		if regex.Size(r) > 24 && e == api.ErrSize && s == "" {
			continue
		}
		back, f := regex.Parse(s)
		if e != api.OK || f != (api.Fault{}) || len(s) > 1000 {
			t.Fatalf("Text(%v): %s, %d, %v", r, s, e, f)
		}
		for _, w := range l {
			if matches(r, w) != matches(back, w) {
				t.Fatalf("Text(%v): %s does not agree at %q", r, s, w)
			}
		}
	}
}

// TestSetText checks the texts of sets of all kinds (P4.3).
func TestSetText(t *testing.T) {
	sets := []api.Bytes{{}, byteset.Of(0, 255), byteset.Of('0', '9'), byteset.Of('!', '/'), byteset.Of('Z', 'a'), byteset.Not(byteset.Of('^', '^')), {0x5555555555555555, 0x5555555555555555}, byteset.Or(byteset.Of('-', '-'), byteset.Of('^', ']'))}
	for _, s := range []string{`\d`, `\w`, `\s`, `[^\x20]`} {
		r, _ := regex.Parse(s)
		sets = append(sets, r.Set, byteset.Not(r.Set))
	}
	for lo := range 256 {
		for hi := lo; hi < min(lo+4, 256); hi++ {
			sets = append(sets, byteset.Of(byte(lo), byte(hi)), byteset.Not(byteset.Of(byte(lo), byte(hi))))
		}
		sets = append(sets, byteset.Of(byte(lo), 255), byteset.Or(byteset.Of(byte(lo), byte(lo)), byteset.Of('^', '^')))
	}
	for _, set := range sets {
		s, e := regex.Text(api.Regex{Kind: api.OneOf, Set: set})
		r, f := regex.Parse(s)
		empty := set == (api.Bytes{}) && r.Kind == api.Nothing
		if e != api.OK || f != (api.Fault{}) || !empty && (r.Kind != api.OneOf || r.Set != set) {
			t.Errorf("the text of %x: %s, %d, %v", set, s, e, f)
		}
	}
}

// TestTextLimits checks the texts of expressions of many levels, parts and ranges (P4.3).
func TestTextLimits(t *testing.T) {
	a := one('a', 'a')
	deep := []api.Regex{nest(a, 15), a, a, a, a}
	for n := range 15 {
		deep[1] = of(api.Cat, deep[1], of(api.Empty))
		deep[2] = of(api.Alt, deep[2], of(api.Empty))
		deep[3] = of([]int{api.Cat, api.Alt}[n%2], one('b', 'b'), deep[3])
		deep[4] = of([]int{api.Star, api.Cat, api.Alt}[n%3], deep[4], one('b', 'b'))
		if n%3 == 0 {
			deep[4].Subs = deep[4].Subs[:1]
		}
	}
	// 24 parts, 40 ranges of which each end needs four bytes, and parentheses.
	worst := api.Regex{Kind: api.Alt}
	for i := range 10 {
		set := api.Bytes{0, 0, 0xe00e00e00e << uint(i), 0}
		worst.Subs = append(worst.Subs, of(api.Star, api.Regex{Kind: api.OneOf, Set: set}))
	}
	worst = of(api.Cat, worst, one('(', '('), one('^', '^'))
	for _, s := range worst.Subs[0].Subs {
		if len(byteset.Ranges(s.Subs[0].Set)) != 4 || regex.Size(worst) != 24 {
			t.Fatalf("%d parts, %v", regex.Size(worst), s)
		}
	}
	for _, r := range append(deep, worst) {
		s, e := regex.Text(r)
		back, f := regex.Parse(s)
		if e != api.OK || f != (api.Fault{}) {
			t.Fatalf("Text(%v): %s, %d, %v", r, s, e, f)
		}
		for _, w := range append(words(4), "(^", "\x82(^", "\x81\xa7(^", "\x80(^", "\xb0\x8d(^", "\x84\x84(^") {
			if matches(r, w) != matches(back, w) {
				t.Fatalf("%s does not agree with %v at %q", s, r, w)
			}
		}
	}
	long := api.Regex{Kind: api.Cat}
	for range 1000 {
		long.Subs = append(long.Subs, a)
	}
	if s, e := regex.Text(long); s != strings.Repeat("a", 1000) || e != api.OK {
		t.Errorf("a text of 1000 bytes: %d, %d", len(s), e)
	}
	long.Subs = append(long.Subs, a)
	if s, e := regex.Text(long); s != "" || e != api.ErrSize {
		t.Errorf("a text of 1001 bytes: %d, %d", len(s), e)
	}
}
