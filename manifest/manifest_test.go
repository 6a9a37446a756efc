package manifest_test

import (
	"cmp"
	"math"
	"slices"
	"strconv"
	"strings"
	"testing"

	"configlang/api"
	"configlang/manifest"
)

// v returns a version.
func v(major, minor, patch int) api.Version {
	return api.Version{Major: major, Minor: minor, Patch: patch}
}

// mod returns a module.
func mod(path string, version api.Version) api.Module {
	return api.Module{Path: path, Version: version}
}

// of returns a manifest of the module m v1.0.0.
func of(requires ...api.Module) api.Manifest {
	return api.Manifest{Module: mod("m", v(1, 0, 0)), Requires: requires}
}

// same reports whether two manifests are equal.
func same(a, b api.Manifest) bool {
	return a.Module == b.Module && slices.Equal(a.Requires, b.Requires)
}

// many returns n requirements, in descending order.
func many(n int) []api.Module {
	var l []api.Module
	for i := range n {
		l = append(l, mod("p"+strconv.Itoa(999-i), v(0, 0, i)))
	}
	return l
}

// TestPath checks module paths (P44.1).
func TestPath(t *testing.T) {
	for _, s := range []string{"a", "z", "a.b", "a.b/c", "a/b/c/d", "a-b_c.d9/e-", "a0", "x..y", "a/b.", strings.Repeat("a", 60), "a" + strings.Repeat("/b", 29) + "c"} {
		if !manifest.Path(s) {
			t.Errorf("Path(%q): false", s)
		}
	}
	for _, s := range []string{"", "/", "a/", "/a", "a//b", "a/1", "1", "1a", "-a", ".a", "_a", "a/.b", "a/-b", "a/_b", "A", "aB", "a/B", "a b", " a", "a ", "a\n", "a\\b", "a+b", "a@v", "a~", "a:b", "\u00e9", "a\u00e9", "a\x00", "a`", "a{", "a,b", "a=b", "..", "a/..", strings.Repeat("a", 61), strings.Repeat("a/", 30) + "b"} {
		if manifest.Path(s) {
			t.Errorf("Path(%q): true", s)
		}
	}
	for b := range 256 {
		c := string([]byte{byte(b)})
		letter := 'a' <= b && b <= 'z'
		if manifest.Path(c) != letter || manifest.Path("a/"+c+"a") != (letter) || manifest.Path("a"+c+"a") != (letter || '0' <= b && b <= '9' || strings.Contains("-._/", c)) {
			t.Errorf("byte %d in a path", b)
		}
	}
}

// TestCheck checks valid and invalid manifests, and which error comes first (P44.1).
func TestCheck(t *testing.T) {
	one := v(1, 0, 0)
	for _, m := range []api.Manifest{of(), of(mod("a", one), mod("b", v(0, 0, 0))), of(mod("b", one), mod("a", one)), of(mod("m/m", one), mod("mm", one)), of(many(64)...)} {
		if e := manifest.Check(m); e != api.OK {
			t.Errorf("Check(%v): %d", m, e)
		}
	}
	for _, c := range []struct {
		m api.Manifest
		e api.Errno
	}{
		{api.Manifest{}, api.ErrName}, {api.Manifest{Module: mod("M", one)}, api.ErrName}, {of(mod("a", one), mod("", one)), api.ErrName}, {of(mod("a", v(-1, 0, 0)), mod("A", one)), api.ErrName}, {of(mod("m", one), mod("a//b", one)), api.ErrName}, {of(append(many(65), mod("1", one))...), api.ErrName}, {api.Manifest{Module: mod("", v(-1, 0, 0))}, api.ErrName},
		{api.Manifest{Module: mod("m", v(0, 0, 10000))}, api.ErrKind}, {of(mod("a", one), mod("b", v(0, -1, 0))), api.ErrKind}, {of(mod("m", v(10000, 0, 0))), api.ErrKind}, {of(append(many(70), mod("a", v(0, math.MaxInt, 0)))...), api.ErrKind}, {of(mod("a", one), mod("a", v(0, 0, -1))), api.ErrKind},
		{of(mod("m", one)), api.ErrTwice}, {of(mod("a", one), mod("m", v(2, 0, 0))), api.ErrTwice}, {of(mod("a", one), mod("a", one)), api.ErrTwice}, {of(mod("a", one), mod("b", one), mod("a", v(2, 0, 0))), api.ErrTwice}, {of(append(many(65), mod("m", one))...), api.ErrTwice}, {of(append(many(70), many(1)...)...), api.ErrTwice},
		{of(many(65)...), api.ErrSize}, {of(many(500)...), api.ErrSize},
	} {
		if e := manifest.Check(c.m); e != c.e {
			t.Errorf("Check(%v): %d, want %d", c.m, e, c.e)
		}
		if s, e := manifest.Text(c.m); s != "" || e != c.e {
			t.Errorf("Text(%v): %q, %d, want %d", c.m, s, e, c.e)
		}
	}
}

// TestCompare checks the order of any modules (P44.1, P44.5).
func TestCompare(t *testing.T) {
	l := []api.Module{{}, mod("", v(0, 0, 1)), mod("A", v(9, 9, 9)), mod("a", v(math.MinInt, 0, 0)), mod("a", v(0, 0, 9)), mod("a", v(0, 0, 10)), mod("a", v(0, 2, 0)), mod("a", v(1, 0, 0)), mod("a", v(math.MaxInt, 0, 0)), mod("a-", v(0, 0, 0)), mod("a/b", v(0, 0, 0)), mod("a0", v(0, 0, 0)), mod("b", v(0, 0, 0)), mod("\xff", v(0, 0, 0))}
	for i, a := range l {
		for j, b := range l {
			if got := manifest.Compare(a, b); got != cmp.Compare(i, j) {
				t.Errorf("Compare(%v, %v): %d", a, b, got)
			}
		}
	}
}

// TestText checks texts, and that Parse undoes Text (P44.2, P44.5).
func TestText(t *testing.T) {
	for _, c := range []struct {
		m    api.Manifest
		want string
	}{
		{of(), "module m v1.0.0\n"}, {of(mod("a.b/c", v(0, 2, 1))), "module m v1.0.0\nrequire a.b/c v0.2.1\n"},
		{of(mod("b", v(0, 0, 0)), mod("a/b", v(10, 20, 30)), mod("a", v(9999, 9999, 9999))), "module m v1.0.0\nrequire a v9999.9999.9999\nrequire a/b v10.20.30\nrequire b v0.0.0\n"},
	} {
		if got, e := manifest.Text(c.m); got != c.want || e != api.OK {
			t.Errorf("Text(%v): %q, %d", c.m, got, e)
		}
	}
	for _, n := range []int{0, 1, 2, 10, 64} {
		m := of(many(n)...)
		s, e := manifest.Text(m)
		slices.Reverse(m.Requires)
		if got, f := manifest.Parse(s); e != api.OK || f != (api.Fault{}) || !same(got, m) {
			t.Errorf("Parse(Text) with %d requirements: %v, %v", n, got, f)
		}
	}
}

// TestParse checks the manifests of texts in different forms (P44.3, P44.5).
func TestParse(t *testing.T) {
	want := of(mod("a.b/c", v(0, 2, 1)), mod("z", v(1, 0, 0)))
	text, _ := manifest.Text(want)
	for _, s := range []string{
		text, text[:len(text)-1], "module m v1.0.0 // main\nrequire a.b/c v0.2.1\nrequire z v1.0.0", "module m v1.0.0\nrequire z v1.0.0\nrequire a.b/c v0.2.1\n",
		"\n\n // x\n   \n  module   m v1.0.0  \n//\nrequire z v1.0.0//y//z\n\n \nrequire  a.b/c  v0.2.1 // module m v2.0.0\n\n", "module m v1.0.0// \xff\x00\t\n// require q v1.0.0\nrequire a.b/c v0.2.1// //\nrequire z v1.0.0\n//", strings.Repeat("\n", 60000) + text, text + strings.Repeat(" ", api.MaxText-len(text)),
	} {
		got, f := manifest.Parse(s)
		again, e := manifest.Text(got)
		if f != (api.Fault{}) || !same(got, want) || again != text || e != api.OK {
			t.Errorf("Parse(%q): %v, %v", s, got, f)
		}
	}
	if got, f := manifest.Parse("module x/y v0.0.0"); f != (api.Fault{}) || !same(got, api.Manifest{Module: mod("x/y", v(0, 0, 0))}) {
		t.Errorf("a module without requirements: %v, %v", got, f)
	}
}

// fails checks that Parse returns a fault, and nothing else.
func fails(t *testing.T, s string, want api.Fault) {
	t.Helper()
	if m, f := manifest.Parse(s); f != want || m.Module != (api.Module{}) || len(m.Requires) != 0 {
		t.Errorf("Parse(%.300q): %v, %v, want %v", s, m, f, want)
	}
}

// TestParseFaults checks the lines of syntax errors (P44.3).
func TestParseFaults(t *testing.T) {
	const m = "module m v1.0.0\n"
	for s, at := range map[string]int{
		"": 1, "\n": 2, "\n\n": 3, " ": 2, " \n": 2, "\n ": 3, "//": 2, "// a\n\n //b\n": 4, "// a\n\n //b": 4,
		"module m v1": 1, "module m": 1, "module": 1, "m v1.0.0": 1, "module m v1.0.0 x": 1, "module m v1.0.0 x // y": 1, "module // m v1.0.0": 1, "module M v1.0.0": 1, "module m 1.0.0": 1, "module m v01.0.0": 1, "module m v1.0.10000": 1, "module m v1.0.0\r": 1, "module\tm\tv1.0.0": 1, "module m\tv1.0.0": 1, "\tmodule m v1.0.0": 1, "Module m v1.0.0": 1, "modules m v1.0.0": 1, "require a v1.0.0": 1, "x m v1.0.0": 1, "module a//b v1.0.0": 1, "module m v1.0.0/": 1, "\n\nmodule m v1": 3, "\t": 1, "\x00": 1, "\u00a0": 1, "module " + strings.Repeat("a", 61) + " v1.0.0": 1,
		m + "module n v1.0.0": 2, m + m: 2, m + "require a": 2, m + "require a v1.0.0\n\n//\nrequire b v1\nx": 5, m + "require A v1.0.0": 2, m + "require a v1.0.0 v1.0.0": 2, m + "\nrequire a v1.0.0\n\t\n": 4, m + "a v1.0.0": 2, m + "requires a v1.0.0": 2, m + "require m v1.0.0\nx": 3, m + "require a v1.0.0\nrequire a v1.0.0\nrequire a v1.0": 4, m + strings.Repeat("\n", 1000) + "x": 1002, m + "require a/ v1.0.0": 2, m + "/ / /": 2,
	} {
		fails(t, s, api.Fault{Errno: api.ErrSyntax, At: at})
	}
}

// TestParseErrors checks the limit of a text, and the errors of Check (P44.3).
func TestParseErrors(t *testing.T) {
	const m = "module m v1.0.0\n"
	requires := func(n int) string {
		var b strings.Builder
		for i := range n {
			b.WriteString("require p" + strconv.Itoa(i) + " v1.0.0\n")
		}
		return b.String()
	}
	fails(t, m+"require m v1.0.0", api.Fault{Errno: api.ErrTwice})
	fails(t, m+"require a v1.0.0\nrequire b v1.0.0\nrequire a v2.0.0", api.Fault{Errno: api.ErrTwice})
	fails(t, m+requires(65), api.Fault{Errno: api.ErrSize})
	fails(t, m+requires(65)+"require p7 v1.0.0", api.Fault{Errno: api.ErrTwice})
	fails(t, m+requires(65)+"require", api.Fault{Errno: api.ErrSyntax, At: 67})
	if got, f := manifest.Parse(m + requires(64)); f != (api.Fault{}) || len(got.Requires) != 64 {
		t.Errorf("64 requirements: %v", f)
	}
	fails(t, m+strings.Repeat(" ", api.MaxText-len(m)+1), api.Fault{Errno: api.ErrSize})
	fails(t, strings.Repeat("x", api.MaxText+1), api.Fault{Errno: api.ErrSize})
	fails(t, strings.Repeat("x", api.MaxText), api.Fault{Errno: api.ErrSyntax, At: 1})
	fails(t, strings.Repeat("\n", api.MaxText), api.Fault{Errno: api.ErrSyntax, At: api.MaxText + 1})
}

// TestOwner checks the module of a path (P44.4).
func TestOwner(t *testing.T) {
	modules := func(paths ...string) []api.Module {
		var l []api.Module
		for i, p := range paths {
			l = append(l, mod(p, v(i, 0, 0)))
		}
		return l
	}
	for _, c := range []struct {
		l     []api.Module
		path  string
		owner int
		rest  string
	}{
		{modules("a.b", "a.b/c"), "a.b/c/d", 1, "d"}, {modules("a.b/c", "a.b"), "a.b/c/d", 0, "d"}, {modules("a.b/c", "a.b"), "a.b/d/c", 1, "d/c"}, {modules("a", "a/b", "a/b/c"), "a/b", 1, ""}, {modules("a", "a"), "a/x", 0, "x"}, {modules("b", "a", "a"), "a", 1, ""}, {modules("a/b", "a", "a/b"), "a/b/c/d/e", 0, "c/d/e"},
		{modules("ab", "a"), "ab/c", 0, "c"}, {modules("a"), "ab", -1, ""}, {modules("a"), "ab/c", -1, ""}, {modules("a/b"), "a", -1, ""}, {modules("a"), "", -1, ""}, {modules("a"), "b/a", -1, ""}, {nil, "a", -1, ""}, {nil, "", -1, ""}, {modules("A"), "a", -1, ""},
		{modules("a"), "a/", 0, ""}, {modules("a"), "a//b", 0, "/b"}, {modules("a", "a/"), "a//b", 1, "b"}, {modules("a/"), "a/", 0, ""}, {modules("a/"), "a/b", -1, ""}, {modules(""), "", 0, ""}, {modules(""), "/b", 0, "b"}, {modules(""), "b", -1, ""}, {modules("", "/"), "//b", 1, "b"}, {modules("\xff \n"), "\xff \n/x", 0, "x"},
	} {
		if owner, rest := manifest.Owner(c.l, c.path); owner != c.owner || rest != c.rest {
			t.Errorf("Owner(%v, %q): %d, %q, want %d, %q", c.l, c.path, owner, rest, c.owner, c.rest)
		}
	}
}

// TestMemory checks that arguments are not changed.
func TestMemory(t *testing.T) {
	l := []api.Module{mod("c", v(1, 0, 0)), mod("a", v(1, 0, 0)), mod("b", v(1, 0, 0)), mod("x", v(1, 0, 0))}
	m := of(l[:3]...)
	manifest.Check(m)
	manifest.Text(m)
	manifest.Owner(l, "a/b")
	if l[0].Path != "c" || l[1].Path != "a" || l[2].Path != "b" || l[3].Path != "x" {
		t.Errorf("an argument is changed: %v", l)
	}
}
