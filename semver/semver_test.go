package semver_test

import (
	"cmp"
	"math"
	"strings"
	"testing"

	"configlang/api"
	"configlang/semver"
)

// v returns a version.
func v(major, minor, patch int) api.Version {
	return api.Version{Major: major, Minor: minor, Patch: patch}
}

// samples returns all versions of some numbers, valid and not.
func samples() []api.Version {
	var l []api.Version
	numbers := []int{math.MinInt, -1, 0, 1, 2, 10, 9998, 9999, 10000, math.MaxInt}
	for _, a := range numbers {
		for _, b := range numbers {
			for _, c := range numbers {
				l = append(l, v(a, b, c))
			}
		}
	}
	return l
}

// valid is the definition of a valid version, apart from the package.
func valid(w api.Version) bool {
	return min(w.Major, w.Minor, w.Patch) >= 0 && max(w.Major, w.Minor, w.Patch) <= 9999
}

// TestCompare checks the order of versions, valid or not (P43.1).
func TestCompare(t *testing.T) {
	for _, a := range samples() {
		if semver.Valid(a) != valid(a) {
			t.Fatalf("Valid(%v)", a)
		}
		for _, b := range samples() {
			want := cmp.Or(cmp.Compare(a.Major, b.Major), cmp.Compare(a.Minor, b.Minor), cmp.Compare(a.Patch, b.Patch))
			if got := semver.Compare(a, b); got != want {
				t.Fatalf("Compare(%v, %v): %d, want %d", a, b, got, want)
			}
		}
	}
}

// TestText checks texts, and that Parse undoes Text (P43.1).
func TestText(t *testing.T) {
	for s, w := range map[string]api.Version{"v0.0.0": v(0, 0, 0), "v1.20.3": v(1, 20, 3), "v9999.9999.9999": v(9999, 9999, 9999), "v10.0.100": v(10, 0, 100)} {
		if semver.Text(w) != s {
			t.Errorf("Text(%v): %s", w, semver.Text(w))
		}
	}
	for _, w := range samples() {
		got, e := semver.Parse(semver.Text(w))
		if valid(w) && (got != w || e != api.OK) {
			t.Errorf("Parse(Text(%v)): %v, %d", w, got, e)
		}
		if !valid(w) && (semver.Text(w) != "?" || got != v(0, 0, 0) || e != api.ErrSyntax) {
			t.Errorf("%v is not valid: %s, %v, %d", w, semver.Text(w), got, e)
		}
	}
}

// TestParse checks that Parse accepts no other form of a version (P43.1).
func TestParse(t *testing.T) {
	for _, s := range []string{"", "?", "v", "v.", "v..", "v1", "v1.2", "v1.2.", "v1..3", "v.2.3", "v1.2.3.4", "v1.2.3.", "1.2.3", "V1.2.3", "vv1.2.3", "v01.2.3", "v1.02.3", "v1.2.03", "v00.0.0", "v-1.2.3", "v-0.2.3", "v+1.2.3", "v1.2.+3", "v1.2.3-a", "v1.2.3+b", " v1.2.3", "v1.2.3 ", "v1.2.3\n", "v1. 2.3", "v1_0.2.3", "v0x1.2.3",
		"v10000.0.0", "v0.10000.0", "v0.0.10000", "v99999999999999999999.0.0", "v1,2,3", "v1.2.a", "v\xd9\xa1.2.3", strings.Repeat("v1.", 100000)} {
		if got, e := semver.Parse(s); got != v(0, 0, 0) || e != api.ErrSyntax {
			t.Errorf("Parse(%q): %v, %d, want ErrSyntax", s, got, e)
		}
	}
}

// TestNext checks the next versions, and which error comes first (P43.2).
func TestNext(t *testing.T) {
	const patch, minor, major = semver.PatchChange, semver.MinorChange, semver.MajorChange
	for _, c := range []struct {
		from   api.Version
		change int
		want   api.Version
		e      api.Errno
	}{
		{v(1, 2, 3), patch, v(1, 2, 4), api.OK}, {v(1, 2, 3), minor, v(1, 3, 0), api.OK}, {v(1, 2, 3), major, v(2, 0, 0), api.OK},
		{v(0, 2, 3), patch, v(0, 2, 4), api.OK}, {v(0, 2, 3), minor, v(0, 2, 4), api.OK}, {v(0, 2, 3), major, v(0, 3, 0), api.OK},
		{v(1, 9999, 9999), major, v(2, 0, 0), api.OK}, {v(0, 1, 9999), major, v(0, 2, 0), api.OK}, {v(1, 1, 9999), minor, v(1, 2, 0), api.OK},
		{v(1, 9999, 0), minor, v(0, 0, 0), api.ErrRange}, {v(9999, 0, 0), major, v(0, 0, 0), api.ErrRange}, {v(1, 0, 9999), patch, v(0, 0, 0), api.ErrRange},
		{v(0, 9999, 0), major, v(0, 0, 0), api.ErrRange}, {v(0, 1, 9999), minor, v(0, 0, 0), api.ErrRange}, {v(0, 1, 9999), patch, v(0, 0, 0), api.ErrRange},
		{v(1, 2, 3), 3, v(0, 0, 0), api.ErrName}, {v(1, 2, 3), -1, v(0, 0, 0), api.ErrName}, {v(0, 0, 0), math.MinInt, v(0, 0, 0), api.ErrName}, {v(9999, 9999, 9999), math.MaxInt, v(0, 0, 0), api.ErrName},
		{v(1, 2, 10000), patch, v(0, 0, 0), api.ErrKind}, {v(-1, 0, 0), 3, v(0, 0, 0), api.ErrKind}, {v(1, math.MaxInt, 0), minor, v(0, 0, 0), api.ErrKind},
	} {
		if got, e := semver.Next(c.from, c.change); got != c.want || e != c.e {
			t.Errorf("Next(%v, %d): %v, %d, want %v, %d", c.from, c.change, got, e, c.want, c.e)
		}
	}
}

// TestCompatible checks the definition of Compatible (P43.2).
func TestCompatible(t *testing.T) {
	for _, a := range samples() {
		for _, b := range samples() {
			want := valid(a) && valid(b) && semver.Compare(a, b) <= 0 && a.Major == b.Major && (a.Major != 0 || a.Minor == b.Minor)
			if semver.Compatible(a, b) != want {
				t.Fatalf("Compatible(%v, %v): want %v", a, b, want)
			}
		}
	}
}

// TestLaws checks the laws of the order, of Next and of Compatible (P43.3).
func TestLaws(t *testing.T) {
	l := samples()
	for _, a := range l {
		for change := range 3 {
			next, e := semver.Next(a, change)
			if e == api.OK && (semver.Compare(next, a) != 1 || semver.Compatible(a, next) == (change == semver.MajorChange)) {
				t.Fatalf("Next(%v, %d): %v", a, change, next)
			}
		}
		for i, b := range l {
			if c := semver.Compare(a, b); c != -semver.Compare(b, a) || (c == 0) != (a == b) {
				t.Fatalf("Compare(%v, %v): %d", a, b, c)
			}
			c := l[(i*37+11)%len(l)]
			if semver.Compare(a, b) <= 0 && semver.Compare(b, c) <= 0 && semver.Compare(a, c) > 0 {
				t.Fatalf("the order of %v, %v and %v", a, b, c)
			}
			if semver.Compatible(a, b) && semver.Compatible(b, c) && !semver.Compatible(a, c) {
				t.Fatalf("Compatible of %v, %v and %v", a, b, c)
			}
		}
	}
}
