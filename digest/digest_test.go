package digest_test

import (
	"hash/fnv"
	"math/big"
	"slices"
	"strconv"
	"strings"
	"testing"

	"configlang/api"
	"configlang/digest"
)

// random returns numbers that are the same in each run.
type random uint64

func (x *random) below(n int) int {
	*x = *x*6364136223846793005 + 1442695040888963407
	return int(uint64(*x)>>33) % n
}

// shuffle brings a list into another order.
func shuffle[T any](x *random, l []T) []T {
	l = slices.Clone(l)
	for i := len(l) - 1; i > 0; i-- {
		j := x.below(i + 1)
		l[i], l[j] = l[j], l[i]
	}
	return l
}

// module returns a module with a version whose minor number is given.
func module(path string, minor int) api.Module {
	return api.Module{Path: path, Version: api.Version{Major: 1, Minor: minor}}
}

// release returns a release of a module that requires others.
func release(m api.Module, sources []api.Source, requires ...api.Module) api.Release {
	return api.Release{Manifest: api.Manifest{Module: m, Requires: requires}, Sources: sources}
}

// TestExamples checks the examples of the chapter.
func TestExamples(t *testing.T) {
	if n := digest.Sum(""); n != 14695981039346656037 || digest.Text(n) != "h:cbf29ce484222325" {
		t.Errorf("Sum of the empty text: %d, %s", n, digest.Text(n))
	}
	if s := digest.Text(digest.Sum("a")); s != "h:af63dc4c8601ec8c" {
		t.Errorf("Sum of a: %s", s)
	}
	if n, e := digest.Parse("h:CBF29CE484222325"); n != 0 || e != api.ErrSyntax {
		t.Errorf("Parse: %d, %d", n, e)
	}
}

// sum returns the sum of a text, computed with large numbers from a sum on.
func sum(from uint64, s string) uint64 {
	n := new(big.Int).SetUint64(from)
	prime, modulus := big.NewInt(1099511628211), new(big.Int).Lsh(big.NewInt(1), 64)
	for _, b := range []byte(s) {
		n.Xor(n, big.NewInt(int64(b)))
		n.Mod(n.Mul(n, prime), modulus)
	}
	return n.Uint64()
}

// TestSum compares sums with other computations of them (P47.1, P47.4).
func TestSum(t *testing.T) {
	x := random(47)
	for range 2000 {
		b := make([]byte, x.below(60))
		for i := range b {
			b[i] = byte(x.below(256))
		}
		s := string(b)
		h := fnv.New64a()
		h.Write(b)
		n := digest.Sum(s)
		if n != h.Sum64() || n != sum(14695981039346656037, s) {
			t.Fatalf("Sum(%q): %d", s, n)
		}
		cut := x.below(len(s) + 1)
		if sum(digest.Sum(s[:cut]), s[cut:]) != n {
			t.Fatalf("the sum of %q does not follow from that of a prefix", s)
		}
		if len(s) > 0 {
			i := x.below(len(s))
			b[i] ^= byte(1 + x.below(255))
			if digest.Sum(string(b)) == n {
				t.Fatalf("%q and %q have the same sum", s, b)
			}
		}
	}
}

// TestText checks the texts of sums, and which texts are none (P47.1).
func TestText(t *testing.T) {
	x := random(48)
	for i := range 2000 {
		n := digest.Sum(strconv.Itoa(i)) >> x.below(65)
		s := digest.Text(n)
		hex := strconv.FormatUint(n, 16)
		if s != "h:"+strings.Repeat("0", 16-len(hex))+hex {
			t.Fatalf("Text(%d): %s", n, s)
		}
		if got, e := digest.Parse(s); got != n || e != api.OK {
			t.Fatalf("Parse(%s): %d, %d", s, got, e)
		}
	}
	good := "h:0123456789abcdef"
	if n, e := digest.Parse(good); n != 0x0123456789abcdef || e != api.OK {
		t.Errorf("Parse(%s): %d, %d", good, n, e)
	}
	bad := []string{"", "h:", "h", good[:17], good + "0", " " + good, good + "\n", "H" + good[1:], good[2:], "h;" + good[2:], "h:0123456789abcdeF", "h:0123456789abcdeg", "h:0123456789abcd\xff\xff", "h:0123456789abcdé", "h:+123456789abcdef", "h:0x23456789abcdef", "h:0_23456789abcdef", "h:0123456789abcde\x00", "h:\ufffd123456789abc", "g:0123456789abcdef"}
	for _, s := range bad {
		if n, e := digest.Parse(s); n != 0 || e != api.ErrSyntax {
			t.Errorf("Parse(%q): %d, %d", s, n, e)
		}
	}
	for i := range good {
		for c := range 256 {
			s := good[:i] + string([]byte{byte(c)}) + good[i+1:]
			n, e := digest.Parse(s)
			if permitted := i >= 2 && strings.ContainsRune("0123456789abcdef", rune(c)) || s == good; permitted != (e == api.OK) || permitted && digest.Text(n) != s {
				t.Errorf("Parse(%q): %d, %d", s, n, e)
			}
		}
	}
}

// TestRelease checks the digests of releases, and their errors (P47.2, P47.4).
func TestRelease(t *testing.T) {
	sources := []api.Source{{Name: "b.cl", Text: "b: 1"}, {Name: "a\n\"", Text: ""}, {Name: "", Text: "\xff\x00"}, {Name: "B"}}
	r := release(module("m/x", 2), sources, module("c", 1), module("a", 3))
	line := func(literal, text string) string { return literal + " " + digest.Text(digest.Sum(text)) + "\n" }
	text := "module m/x v1.2.0\nrequire a v1.3.0\nrequire c v1.1.0\n" + line(`""`, "\xff\x00") + line(`"B"`, "") + line(`"a\n\""`, "") + line(`"b.cl"`, "b: 1")
	want := digest.Text(digest.Sum(text))
	x := random(49)
	for range 50 {
		if s, e := digest.Release(r); s != want || e != api.OK {
			t.Fatalf("Release(%v): %s, %d, want %s", r, s, e, want)
		}
		r.Sources, r.Manifest.Requires = shuffle(&x, r.Sources), shuffle(&x, r.Manifest.Requires)
	}
	before := slices.Clone(r.Sources)
	digest.Release(r)
	if !slices.Equal(r.Sources, before) {
		t.Error("Release changes its argument")
	}
	if s, e := digest.Release(release(module("m", 0), nil)); s != digest.Text(digest.Sum("module m v1.0.0\n")) || e != api.OK {
		t.Errorf("without sources: %s, %d", s, e)
	}
	twice := []api.Source{{Name: "a", Text: "1"}, {Name: "b"}, {Name: "a", Text: "2"}}
	for _, c := range []struct {
		r api.Release
		e api.Errno
	}{
		{release(module("m", 0), twice), api.ErrTwice}, {release(module("M", 0), twice), api.ErrName}, {release(module("m", -1), twice), api.ErrKind}, {release(module("m", 1), nil, module("a", 1), module("a", 2)), api.ErrTwice}, {release(module("m", 1), []api.Source{{}, {}}), api.ErrTwice}, {release(api.Module{}, nil), api.ErrName},
	} {
		if s, e := digest.Release(c.r); s != "" || e != c.e {
			t.Errorf("Release(%v): %s, %d, want %d", c.r, s, e, c.e)
		}
	}
}

// TestList checks the digests of several releases, and their errors (P47.3, P47.4).
func TestList(t *testing.T) {
	l := []api.Release{release(module("b", 1), nil), release(module("a", 10), []api.Source{{Name: "x"}}), release(module("a", 2), nil, module("b", 0)), release(module("a/b", 0), nil), release(api.Module{Path: "a"}, nil)}
	of := func(i int) string {
		s, _ := digest.Release(l[i])
		return s
	}
	want := []string{"a v0.0.0 " + of(4), "a v1.2.0 " + of(2), "a v1.10.0 " + of(1), "a/b v1.0.0 " + of(3), "b v1.1.0 " + of(0)}
	x := random(50)
	for range 50 {
		if got, e := digest.List(shuffle(&x, l)); !slices.Equal(got, want) || e != api.OK {
			t.Fatalf("List: %q, %d, want %q", got, e, want)
		}
	}
	if got, e := digest.List(nil); len(got) != 0 || e != api.OK {
		t.Errorf("List of none: %q, %d", got, e)
	}
	twice := release(module("c", 0), []api.Source{{Name: "a"}, {Name: "a"}})
	bad := release(module("c", -1), nil)
	same := release(module("b", 1), []api.Source{{Name: "y"}})
	for i, c := range []struct {
		l []api.Release
		e api.Errno
	}{
		{append(slices.Clone(l), same), api.ErrTwice}, {[]api.Release{same, same, bad}, api.ErrKind}, {[]api.Release{twice, bad}, api.ErrTwice}, {[]api.Release{bad, twice}, api.ErrKind}, {[]api.Release{l[0], {}, bad}, api.ErrName},
	} {
		if got, e := digest.List(c.l); len(got) != 0 || e != c.e {
			t.Errorf("case %d: %q, %d, want %d", i, got, e, c.e)
		}
	}
}
