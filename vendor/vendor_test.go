package vendor_test

import (
	"reflect"
	"slices"
	"strings"
	"testing"

	"configlang/api"
	"configlang/digest"
	"configlang/manifest"
	"configlang/selection"
	"configlang/semver"
	"configlang/vendor"
)

// random returns numbers that are the same in each run.
type random uint64

func (x *random) below(n int) int {
	*x = *x*6364136223846793005 + 1442695040888963407
	return int(uint64(*x)>>33) % n
}

// module returns a module with the version v1.minor.0.
func module(path string, minor int) api.Module {
	return api.Module{Path: path, Version: api.Version{Major: 1, Minor: minor}}
}

// release returns a release with one source.
func release(m api.Module, requires ...api.Module) api.Release {
	return api.Release{Manifest: api.Manifest{Module: m, Requires: requires}, Sources: []api.Source{{Name: "x.cl", Text: "a: 1"}}}
}

// registry returns releases of a few modules that require one another.
func registry(x *random) []api.Release {
	var l []api.Release
	for _, path := range []string{"a", "b", "c.d/e", "root"} {
		for minor := range 3 {
			r := release(module(path, minor))
			for _, other := range []string{"a", "b", "c.d/e", "root"} {
				if other != path && x.below(3) == 0 {
					r.Manifest.Requires = append(r.Manifest.Requires, module(other, x.below(3)))
				}
			}
			if x.below(3) == 0 {
				r.Sources = append(r.Sources, api.Source{Name: "b\n\"", Text: strings.Repeat("z", x.below(4))})
			}
			l = append(l, r)
		}
	}
	for i := range l {
		j := x.below(i + 1)
		l[i], l[j] = l[j], l[i]
	}
	return l
}

// root returns a root that requires some modules.
func root(x *random) api.Manifest {
	m := api.Manifest{Module: module("root", 1)}
	for _, path := range []string{"a", "b", "c.d/e"} {
		if x.below(3) > 0 {
			m.Requires = append(m.Requires, module(path, x.below(3)))
		}
	}
	return m
}

// manifests returns the manifests of releases.
func manifests(l []api.Release) []api.Manifest {
	var all []api.Manifest
	for _, r := range l {
		all = append(all, r.Manifest)
	}
	return all
}

// clone returns a copy of releases.
func clone(l []api.Release) []api.Release {
	l = slices.Clone(l)
	for i := range l {
		l[i].Manifest.Requires = slices.Clone(l[i].Manifest.Requires)
		l[i].Sources = slices.Clone(l[i].Sources)
	}
	return l
}

// render returns the text of entries.
func render(l []vendor.Entry) string {
	s := ""
	for _, e := range l {
		s += e.Module.Path + " " + semver.Text(e.Module.Version) + " " + e.Sum + "\n"
	}
	return s
}

// TestExample checks the example of the chapter.
func TestExample(t *testing.T) {
	a := release(module("a", 2))
	r := api.Manifest{Module: module("m", 0), Requires: []api.Module{module("a", 2)}}
	l, e := vendor.Collect([]api.Release{a}, r)
	if e != api.OK || !reflect.DeepEqual(l, []api.Release{a}) {
		t.Fatalf("Collect: %v, %d", l, e)
	}
	lock, e := vendor.Lock(l)
	if e != api.OK || len(vendor.Verify(r, l, lock)) != 0 {
		t.Errorf("Lock: %q, %d", lock, e)
	}
}

// TestCollect compares Collect with the build list (P48.1), and checks that nothing is found then (P48.4).
func TestCollect(t *testing.T) {
	x := random(48)
	for range 300 {
		reg, r := registry(&x), root(&x)
		before := clone(reg)
		l, e := vendor.Collect(reg, r)
		list, want := selection.BuildList(manifests(reg), r)
		if e != want || e != api.OK {
			t.Fatalf("Collect: %d, want %d", e, want)
		}
		var all []api.Release
		for _, m := range list[1:] {
			all = append(all, reg[slices.IndexFunc(reg, func(r api.Release) bool { return r.Manifest.Module == m })])
		}
		if len(l) != len(all) || len(l) > 0 && !reflect.DeepEqual(l, all) {
			t.Fatalf("Collect: %v, want %v", l, all)
		}
		lock, e := vendor.Lock(l)
		if issues := vendor.Verify(r, l, lock); e != api.OK || len(issues) > 0 {
			t.Fatalf("Verify: %v", issues)
		}
		for i := range l {
			for j := range l[i].Sources {
				l[i].Sources[j].Text = "?"
			}
			for j := range l[i].Manifest.Requires {
				l[i].Manifest.Requires[j].Path = "?"
			}
		}
		if !reflect.DeepEqual(reg, before) {
			t.Fatal("the result shares memory with the registry")
		}
	}
}

// TestCollectErrors checks the errors of Collect and Lock, and their order (P48.1, P48.2).
func TestCollectErrors(t *testing.T) {
	good := release(module("a", 1))
	twice := release(module("b", 1))
	twice.Sources = append(twice.Sources, twice.Sources[0])
	name := release(module("A", 1))
	kind := release(module("c", -1))
	r := api.Manifest{Module: module("m", 0), Requires: []api.Module{module("a", 1)}}
	other := api.Manifest{Module: module("m", 0), Requires: []api.Module{module("a", 2)}}
	bad := api.Manifest{Module: module("m", -1)}
	for i, c := range []struct {
		reg  []api.Release
		root api.Manifest
		want api.Errno
	}{
		{[]api.Release{good, twice, name}, r, api.ErrTwice},
		{[]api.Release{name, twice}, r, api.ErrName},
		{[]api.Release{good, kind, name}, bad, api.ErrKind},
		{[]api.Release{good, good, name}, r, api.ErrName},
		{[]api.Release{good, good}, bad, api.ErrTwice},
		{[]api.Release{good}, bad, api.ErrKind},
		{[]api.Release{good}, other, api.ErrNone},
		{nil, r, api.ErrNone},
		{nil, api.Manifest{Module: module("m", 0)}, api.OK},
	} {
		if l, e := vendor.Collect(c.reg, c.root); e != c.want || len(l) > 0 {
			t.Errorf("Collect %d: %v, %d, want %d", i, l, e, c.want)
		}
	}
	for i, c := range []struct {
		l    []api.Release
		want api.Errno
	}{
		{[]api.Release{good, twice, name}, api.ErrTwice}, {[]api.Release{good, good}, api.ErrTwice}, {[]api.Release{good, good, name}, api.ErrName}, {nil, api.OK},
	} {
		if s, e := vendor.Lock(c.l); e != c.want || s != "" {
			t.Errorf("Lock %d: %q, %d, want %d", i, s, e, c.want)
		}
		if got := vendor.Verify(r, c.l, ""); c.want != api.OK && !slices.Equal(got, []vendor.Issue{{Errno: c.want}}) {
			t.Errorf("Verify %d: %v", i, got)
		}
	}
}

// TestLock checks that Unlock undoes Lock (P48.2, P48.4).
func TestLock(t *testing.T) {
	x := random(482)
	for range 100 {
		reg := registry(&x)
		reg = reg[:x.below(len(reg)+1)]
		s, e := vendor.Lock(reg)
		lines, _ := digest.List(reg)
		if want := strings.Join(append(lines, ""), "\n"); e != api.OK || s != want {
			t.Fatalf("Lock: %q, %d, want %q", s, e, want)
		}
		l, f := vendor.Unlock(s)
		if f != (api.Fault{}) || len(l) != len(reg) || render(l) != s {
			t.Fatalf("Unlock: %v, %v", l, f)
		}
		for _, r := range reg {
			sum, _ := digest.Release(r)
			if !slices.Contains(l, vendor.Entry{Module: r.Manifest.Module, Sum: sum}) {
				t.Fatalf("no entry of %v", r.Manifest.Module)
			}
		}
	}
}

// TestUnlock checks the faults of Unlock (P48.2).
func TestUnlock(t *testing.T) {
	const sum = "h:0123456789abcdef"
	for _, c := range []struct {
		s  string
		at int // 0 for no fault
	}{
		{"", 0}, {"\n", 1}, {" ", 1}, {"a v1.0.0 " + sum + "\n", 0}, {"a v1.0.0 " + sum, 1}, {"a v1.0.0 " + sum + "\n\n", 2}, {"\na v1.0.0 " + sum + "\n", 1},
		{"a v1.0.0 " + sum + " \n", 1}, {" a v1.0.0 " + sum + "\n", 1}, {"a  v1.0.0 " + sum + "\n", 1}, {"a v1.0.0  " + sum + "\n", 1}, {"a\tv1.0.0 " + sum + "\n", 1}, {"a v1.0.0 " + sum + "\r\n", 1},
		{"A v1.0.0 " + sum + "\n", 1}, {"a/ v1.0.0 " + sum + "\n", 1}, {"a v1.0 " + sum + "\n", 1}, {"a v01.0.0 " + sum + "\n", 1}, {"a v1.0.10000 " + sum + "\n", 1}, {"a v1.0.0 h:0123456789ABCDEF\n", 1}, {"a v1.0.0 " + sum + "0\n", 1}, {"a v1.0.0\n", 1}, {"a v1.0.0 " + sum + " // x\n", 1},
		{"a v1.0.0 " + sum + "\na v1.0.0 " + sum + "\n", 2}, {"a v1.0.1 " + sum + "\na v1.0.0 " + sum + "\n", 2}, {"b v1.0.0 " + sum + "\na v1.0.0 " + sum + "\n", 2}, {"a v1.9.0 " + sum + "\na v1.10.0 " + sum + "\n", 0}, {"a v1.0.0 " + sum + "\nb v1.0.0 " + sum, 2}, {"a v1.0.0 " + sum + "\nb v1.0.0 " + sum + "\nx\ny\n", 3}, {"a-b v1.0.0 " + sum + "\na.b v1.0.0 " + sum + "\na/b v1.0.0 " + sum + "\n", 0},
	} {
		want := api.Fault{}
		if c.at > 0 {
			want = api.Fault{Errno: api.ErrSyntax, At: c.at}
		}
		l, f := vendor.Unlock(c.s)
		if f != want || f.Errno != api.OK && len(l) > 0 || f.Errno == api.OK && render(l) != c.s {
			t.Errorf("Unlock(%q): %v, %v, want %v", c.s, l, f, want)
		}
	}
	long := ""
	for i := 0; len(long) < api.MaxText; i++ {
		long += "m" + string([]byte{byte('a' + i/676), byte('a' + i/26%26), byte('a' + i%26)}) + " v1.0.0 " + sum + "\n"
	}
	n := strings.Count(long, "\n")
	cut := long[:strings.LastIndex(long[:len(long)-1], "\n")+1]
	if l, f := vendor.Unlock(cut); f != (api.Fault{}) || len(l) != n-1 {
		t.Errorf("Unlock: %d, %v", len(l), f)
	}
	if l, f := vendor.Unlock(long); f != (api.Fault{Errno: api.ErrSize}) || len(l) > 0 {
		t.Errorf("Unlock: %d, %v", len(l), f)
	}
	full := cut + strings.Repeat("x", api.MaxText-len(cut))
	if _, f := vendor.Unlock(full); f != (api.Fault{Errno: api.ErrSyntax, At: n}) {
		t.Errorf("Unlock: %v", f)
	}
	if _, f := vendor.Unlock(full + "x"); f != (api.Fault{Errno: api.ErrSize}) {
		t.Errorf("Unlock: %v", f)
	}
}

// TestUnlockChanged changes each byte of a lock: what is accepted is the text of its entries, and the fault is that of the first line that is not (P48.2).
func TestUnlockChanged(t *testing.T) {
	const sum = "h:0123456789abcdef"
	s := "a v1.0.0 " + sum + "\na/b v1.20.0 " + sum + "\nb v0.0.3 " + sum + "\n"
	for i := range len(s) {
		for _, c := range []byte(" \n\t/.vahA0129:f") {
			changed := s[:i] + string([]byte{c}) + s[i+1:]
			l, f := vendor.Unlock(changed)
			if f.Errno == api.OK {
				sorted := slices.IsSortedFunc(l, func(a, b vendor.Entry) int { return manifest.Compare(a.Module, b.Module) })
				if render(l) != changed || !sorted {
					t.Fatalf("Unlock(%q): %v", changed, l)
				}
				continue
			}
			lines := strings.SplitAfter(changed, "\n")
			_, before := vendor.Unlock(strings.Join(lines[:f.At-1], ""))
			_, with := vendor.Unlock(strings.Join(lines[:f.At], ""))
			if f.Errno != api.ErrSyntax || before.Errno != api.OK || with != f {
				t.Fatalf("Unlock(%q): %v", changed, f)
			}
		}
	}
}

// issues is the definition of Verify for releases and entries without errors.
func issues(r api.Manifest, l []api.Release, entries []vendor.Entry) []vendor.Issue {
	var paths []string
	for _, x := range l {
		paths = append(paths, x.Manifest.Module.Path)
		for _, q := range x.Manifest.Requires {
			paths = append(paths, q.Path)
		}
	}
	for _, e := range entries {
		paths = append(paths, e.Module.Path)
	}
	for _, q := range r.Requires {
		paths = append(paths, q.Path)
	}
	slices.Sort(paths)
	paths = slices.Compact(paths)
	var first, second []vendor.Issue
	for _, path := range paths {
		for _, rank := range []api.Errno{api.ErrNone, api.ErrTwice, api.ErrSum} {
			for _, e := range entries {
				i := slices.IndexFunc(l, func(x api.Release) bool { return x.Manifest.Module == e.Module })
				sum := ""
				if i >= 0 {
					sum, _ = digest.Release(l[i])
				}
				if e.Module.Path == path && (rank == api.ErrNone && i < 0 || rank == api.ErrSum && i >= 0 && sum != e.Sum) {
					first = append(first, vendor.Issue{Path: path, Errno: rank})
				}
			}
			for _, x := range l {
				locked := slices.ContainsFunc(entries, func(e vendor.Entry) bool { return e.Module == x.Manifest.Module })
				if x.Manifest.Module.Path == path && rank == api.ErrTwice && !locked {
					first = append(first, vendor.Issue{Path: path, Errno: rank})
				}
			}
		}
		exceeds := func(v api.Version) bool { // whether all versions of the path are less
			return !slices.ContainsFunc(l, func(x api.Release) bool {
				return x.Manifest.Module.Path == path && semver.Compare(x.Manifest.Module.Version, v) >= 0
			})
		}
		absent := false
		for _, m := range append(manifests(l), r) {
			for _, q := range m.Requires {
				absent = absent || q.Path == path && path != r.Module.Path && exceeds(q.Version)
			}
		}
		if absent {
			second = append(second, vendor.Issue{Path: path, Errno: api.ErrAbsent})
		}
		for _, x := range l {
			m := x.Manifest.Module
			if m.Path == path && !exceeds(api.Version{Major: m.Version.Major, Minor: m.Version.Minor, Patch: m.Version.Patch + 1}) {
				second = append(second, vendor.Issue{Path: path, Errno: api.ErrStale})
			}
		}
	}
	if len(first) > 0 {
		return first
	}
	return second
}

// TestVerify compares Verify with its definition (P48.3).
func TestVerify(t *testing.T) {
	x := random(483)
	met := map[api.Errno]int{}
	for range 3000 {
		reg := registry(&x)
		l := reg[:x.below(len(reg)+1)]
		if x.below(3) == 0 {
			l, _ = vendor.Collect(reg, root(&x))
		}
		s, _ := vendor.Lock(l)
		entries, _ := vendor.Unlock(s)
		for range x.below(3) {
			if len(entries) == 0 {
				break
			}
			switch i := x.below(len(entries)); x.below(3) {
			case 0:
				entries = slices.Delete(entries, i, i+1)
			case 1:
				entries[i].Sum = "h:0123456789abcdef"
			case 2:
				entries[i].Module.Version.Patch = 3
			}
		}
		r := root(&x)
		before := clone(l)
		got, want := vendor.Verify(r, l, render(entries)), issues(r, l, entries)
		if !slices.Equal(got, want) {
			t.Fatalf("Verify(%v, %v, %v): %v, want %v", r, l, entries, got, want)
		}
		if len(l) > 0 && !reflect.DeepEqual(l, before) {
			t.Fatal("Verify changes its argument")
		}
		for _, i := range got {
			met[i.Errno]++
		}
		if len(got) == 0 {
			met[api.OK]++
		}
	}
	for _, e := range []api.Errno{api.OK, api.ErrNone, api.ErrTwice, api.ErrSum, api.ErrAbsent, api.ErrStale} {
		if met[e] < 100 {
			t.Errorf("error %d: %d times", e, met[e])
		}
	}
}

// TestVerifyCases checks single cases of Verify (P48.3).
func TestVerifyCases(t *testing.T) {
	a1, a2, b1 := release(module("a", 1)), release(module("a", 2)), release(module("b", 1), module("a", 2), module("m", 9))
	lock := func(l ...api.Release) string {
		s, _ := vendor.Lock(l)
		return s
	}
	needs := func(l ...api.Module) api.Manifest { return api.Manifest{Module: module("m", 0), Requires: l} }
	wrong := release(module("Z", 1))
	for i, c := range []struct {
		root api.Manifest
		l    []api.Release
		lock string
		want []vendor.Issue
	}{
		{needs(), []api.Release{wrong}, "x", []vendor.Issue{{Errno: api.ErrText}}},
		{needs(), []api.Release{wrong}, "", []vendor.Issue{{Errno: api.ErrName}}},
		{needs(), []api.Release{a1, a1}, lock(a1), []vendor.Issue{{Errno: api.ErrTwice}}},
		{needs(), []api.Release{a1}, strings.Repeat("x", api.MaxText+1), []vendor.Issue{{Errno: api.ErrText}}},
		{needs(module("b", 1)), []api.Release{b1, a2}, lock(a2, b1), nil},
		{needs(module("b", 1)), []api.Release{b1, a1}, lock(a1, b1), []vendor.Issue{{Path: "a", Errno: api.ErrAbsent}}},
		{needs(module("a", 2), module("b", 1)), []api.Release{b1}, lock(b1), []vendor.Issue{{Path: "a", Errno: api.ErrAbsent}}},
		{needs(module("m", 5)), []api.Release{b1, a2}, lock(a2, b1), nil},
		{needs(), []api.Release{b1, a2, a1}, lock(a1, a2, b1), []vendor.Issue{{Path: "a", Errno: api.ErrStale}}},
		{needs(module("a", 3)), []api.Release{a2, a1}, lock(a1, a2), []vendor.Issue{{Path: "a", Errno: api.ErrAbsent}, {Path: "a", Errno: api.ErrStale}}},
		{needs(module("a", 3)), []api.Release{a2}, lock(a1), []vendor.Issue{{Path: "a", Errno: api.ErrNone}, {Path: "a", Errno: api.ErrTwice}}},
		{needs(), nil, lock(a1, a2), []vendor.Issue{{Path: "a", Errno: api.ErrNone}, {Path: "a", Errno: api.ErrNone}}},
		{needs(), []api.Release{a1, a2, release(module("a", 3))}, lock(a1, a2, release(module("a", 3))), []vendor.Issue{{Path: "a", Errno: api.ErrStale}, {Path: "a", Errno: api.ErrStale}}},
		{needs(api.Module{Path: "Z Z", Version: api.Version{Major: -1}}, api.Module{Path: "Z Z"}), nil, "", []vendor.Issue{{Path: "Z Z", Errno: api.ErrAbsent}}},
		{api.Manifest{}, nil, "", nil},
	} {
		if got := vendor.Verify(c.root, c.l, c.lock); !slices.Equal(got, c.want) {
			t.Errorf("Verify %d: %v, want %v", i, got, c.want)
		}
	}
}

// TestChangedSource checks that a changed byte is found (P48.4).
func TestChangedSource(t *testing.T) {
	x := random(484)
	for range 50 {
		reg, r := registry(&x), root(&x)
		l, _ := vendor.Collect(reg, r)
		lock, _ := vendor.Lock(l)
		for i := range l {
			for j := range l[i].Sources {
				text := l[i].Sources[j].Text
				for k := range len(text) {
					l[i].Sources[j].Text = text[:k] + "!" + text[k+1:]
					want := []vendor.Issue{{Path: l[i].Manifest.Module.Path, Errno: api.ErrSum}}
					if got := vendor.Verify(r, l, lock); !slices.Equal(got, want) {
						t.Fatalf("Verify: %v, want %v", got, want)
					}
				}
				l[i].Sources[j].Text = text
			}
		}
	}
}
