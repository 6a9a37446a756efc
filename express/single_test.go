package express_test

import (
	"math"
	"slices"
	"strings"
	"testing"

	"configlang/api"
	"configlang/automaton"
	"configlang/express"
	"configlang/parts"
	"configlang/refine"
	"configlang/regex"
	"configlang/trial"
	"configlang/value"
)

// says checks that a result is the Val of one struct case that says of each label what it shall.
func says(t *testing.T, name string, got api.Val, want func(label string) (api.Val, int)) {
	t.Helper()
	if !refine.Valid(got) || !parts.Same(got.V, got.D) || len(got.V.Structs) != 1 || parts.Alternatives(got.V) != 1 {
		t.Fatalf("%s: %s", name, trial.Show(got))
	}
	for _, label := range append(trial.Labels(), "x", "aaa", "bb", "c") {
		v, p := value.View(got.V.Structs[0], label)
		if w, q := want(label); p != q || !parts.SameVal(v, w) {
			t.Fatalf("%s: %s of %q, %d", name, trial.Show(got), label, p)
		}
	}
}

// randomVal returns a random valid Val.
func randomVal(x *trial.Random) api.Val {
	if x.Below(4) == 0 {
		return parts.CopyVal(trial.Pick(x, value.Top(), value.Bottom(), marked(top, bottom), plain(one), marked(ints, one)))
	}
	return trial.Valid(x, 1+x.Below(4))
}

// TestSingle compares Single with its definition (P32.3).
func TestSingle(t *testing.T) {
	x := trial.Random(323)
	for range 2500 {
		v, label, presence := randomVal(&x), trial.Pick(&x, trial.Labels()...), 1+x.Below(3)
		before := parts.CopyVal(v)
		got, e := express.Single(label, presence, v)
		if !parts.SameVal(v, before) || trial.Shares(v, got) || e != api.OK {
			t.Fatalf("Single(%q, %d, %s): %d", label, presence, trial.Show(v), e)
		}
		if presence < api.Optional && value.IsBottom(v.V) {
			if !same(got, e, value.Bottom(), api.OK) {
				t.Fatalf("Single(%q, %d, _|_): %s", label, presence, trial.Show(got))
			}
			continue
		}
		says(t, "Single of "+trial.Show(v), got, func(s string) (api.Val, int) {
			if s == label {
				return v, presence
			}
			return value.Top(), api.Optional
		})
		var m model
		if want := m.single(label, presence, v); !parts.SameVal(got, want) {
			t.Fatalf("Single(%q, %d, %s): %s, want %s", label, presence, trial.Show(v), trial.Show(got), trial.Show(want))
		}
	}
}

// TestPattern compares Pattern with its definition (P32.3).
func TestPattern(t *testing.T) {
	x := trial.Random(324)
	for range 2500 {
		v, s := randomVal(&x), trial.Pick(&x, "a.*", "b|c", "[]", ".*", "[^a]*", "()", "_.*", "a", "(aa)*", "\\x00|.*b")
		before := parts.CopyVal(v)
		got, e := express.Pattern(s, v)
		if !parts.SameVal(v, before) || trial.Shares(v, got) || e != api.OK {
			t.Fatalf("Pattern(%q, %s): %d", s, trial.Show(v), e)
		}
		r, _ := regex.Parse(s)
		says(t, "Pattern of "+s, got, func(label string) (api.Val, int) {
			if regex.Match(r, label) {
				return v, api.Optional
			}
			return value.Top(), api.Optional
		})
		var m model
		if want := m.pattern(s, v); !parts.SameVal(got, want) {
			t.Fatalf("Pattern(%q, %s): %s, want %s", s, trial.Show(v), trial.Show(got), trial.Show(want))
		}
	}
}

// TestSingleErrors checks the errors of Single and Pattern, and their order (P32.3).
func TestSingleErrors(t *testing.T) {
	deep, less, inside := plain(tower(16, true)), plain(tower(15, true)), marked(top, tower(16, false))
	for i, c := range []struct {
		presence int
		v        api.Val
		want     api.Errno
	}{
		{0, plain(one), api.ErrKind}, {4, plain(one), api.ErrKind}, {-1, plain(one), api.ErrKind}, {math.MaxInt, plain(one), api.ErrKind}, {math.MinInt, plain(one), api.ErrKind},
		{1, marked(one, two), api.ErrKind}, {0, deep, api.ErrKind}, {4, deep, api.ErrKind},
		{1, deep, api.ErrDepth}, {2, deep, api.ErrDepth}, {3, deep, api.ErrDepth}, {1, inside, api.ErrDepth}, {2, inside, api.ErrDepth}, {3, inside, api.ErrDepth}, {1, less, api.OK}, {2, less, api.OK}, {3, less, api.OK}, {1, value.Bottom(), api.OK}, {2, value.Bottom(), api.OK}, {3, value.Bottom(), api.OK},
	} {
		got, e := express.Single("a", c.presence, c.v)
		if e != c.want || e != api.OK && !parts.SameVal(got, api.Val{}) || !refine.Valid(got) {
			t.Errorf("Single %d: %d, want %d", i, e, c.want)
		}
	}
	for i, c := range []struct {
		pattern string
		v       api.Val
		want    api.Errno
	}{
		{"(", plain(one), api.ErrKind}, {"", plain(one), api.ErrKind}, {strings.Repeat("a", 1001), plain(one), api.ErrKind}, {strings.Repeat("(", 17) + "a" + strings.Repeat(")*", 17), plain(one), api.ErrKind}, {wide, plain(one), api.ErrKind}, {wide, value.Top(), api.ErrKind}, {"a", marked(one, two), api.ErrKind}, {"(", deep, api.ErrKind}, {wide, deep, api.ErrKind}, {"[]", marked(one, two), api.ErrKind},
		{"a", deep, api.ErrDepth}, {".*", deep, api.ErrDepth}, {"a", inside, api.ErrDepth}, {"a", less, api.OK}, {".*", less, api.OK},
		{"[]", deep, api.OK}, {"[]", inside, api.OK}, {"a[]", deep, api.OK}, // which no label matches
	} {
		got, e := express.Pattern(c.pattern, c.v)
		if e != c.want || e != api.OK && !parts.SameVal(got, api.Val{}) || !refine.Valid(got) {
			t.Errorf("Pattern %d: %d, want %d", i, e, c.want)
		}
	}
	for i, v := range trial.Wrong() {
		for presence := range 5 {
			if got, e := express.Single("a", presence, v); !same(got, e, api.Val{}, api.ErrKind) {
				t.Errorf("wrong Val %d: Single %d", i, e)
			}
		}
		for _, s := range []string{"a", "[]", "(", wide} {
			if got, e := express.Pattern(s, v); !same(got, e, api.Val{}, api.ErrKind) {
				t.Errorf("wrong Val %d: Pattern %d", i, e)
			}
		}
	}
	endless := list(closed(one))
	endless.Lists[0].Items[0].V = endless
	if _, e := express.Single("a", api.Present, plain(endless)); e != api.ErrKind {
		t.Errorf("an endless value: %d", e)
	}
}

// TestLongLabels checks long labels and all bytes (P32.3).
func TestLongLabels(t *testing.T) {
	var all []byte
	for b := range 256 {
		all = append(all, byte(b))
	}
	for _, label := range []string{string(all), strings.Repeat("ab", 40000)} {
		for presence := api.Present; presence <= api.Optional; presence++ {
			got, e := express.Single(label, presence, plain(one))
			c := api.StructCase{Classes: []api.Class{trial.Others(value.Top(), label), {Set: automaton.Word(label), Val: plain(one)}}}
			if presence < api.Optional {
				c = api.StructCase{Fields: []api.Field{{Label: label, Presence: presence, Val: plain(one)}}, Classes: c.Classes[:1]}
			}
			if want := plain(record(c)); !same(got, e, want, api.OK) {
				t.Errorf("a label of %d bytes, %d: %d", len(label), presence, e)
			}
		}
	}
	long := strings.Repeat("a", 150)
	if got, e := express.Pattern(long, plain(one)); e != api.OK || slices.IndexFunc(got.V.Structs[0].Classes, func(k api.Class) bool { return automaton.Same(k.Set, automaton.Word(long)) }) != 1 {
		t.Errorf("a long pattern: %d", e)
	}
}
