package selection_test

import (
	"cmp"
	"reflect"
	"slices"
	"strconv"
	"strings"
	"testing"

	"configlang/api"
	"configlang/manifest"
	"configlang/selection"
)

// random returns numbers that are the same in each run.
type random uint64

func (x *random) below(n int) int {
	*x = *x*6364136223846793005 + 1442695040888963407
	return int(uint64(*x)>>33) % n
}

// module returns the module that a path with the minor number of its version describes, as in a1.
func module(s string) api.Module {
	n, _ := strconv.Atoi(s[1:])
	return api.Module{Path: s[:1], Version: api.Version{Major: 1, Minor: n}}
}

// modules returns the modules that words describe.
func modules(s string) []api.Module {
	var l []api.Module
	for _, w := range strings.Fields(s) {
		l = append(l, module(w))
	}
	return l
}

// requires returns the manifest of a module with what it requires, as in "a1 b2 c0".
func requires(s string) api.Manifest {
	l := modules(s)
	return api.Manifest{Module: l[0], Requires: l[1:]}
}

// registry returns the manifests that lines describe.
func registry(s string) []api.Manifest {
	var r []api.Manifest
	for _, line := range strings.Split(s, ";") {
		if strings.TrimSpace(line) != "" {
			r = append(r, requires(line))
		}
	}
	return r
}

// describe returns modules as words.
func describe(l []api.Module) string {
	var words []string
	for _, m := range l {
		words = append(words, m.Path+strconv.Itoa(m.Version.Minor))
	}
	return strings.Join(words, " ")
}

// shuffle brings a list into another order.
func shuffle[T any](x *random, l []T) []T {
	l = slices.Clone(l)
	for i := len(l) - 1; i > 0; i-- {
		j := x.below(i + 1)
		l[i], l[j] = l[j], l[i]
	}
	return l
}

// some returns a registry of a few modules, whose requirements may be missing in it, and a root r0.
func some(x *random) ([]api.Manifest, api.Manifest) {
	paths := []string{"a", "b", "c", "d", "r"}
	pick := func(without string) []api.Module {
		var l []api.Module
		for _, p := range shuffle(x, paths) {
			if p != without && x.below(3) == 0 {
				l = append(l, module(p+strconv.Itoa(x.below(4))))
			}
		}
		return l
	}
	var r []api.Manifest
	for _, p := range paths {
		for i := range 4 {
			if x.below(12) > 0 {
				r = append(r, api.Manifest{Module: module(p + strconv.Itoa(i)), Requires: pick(p)})
			}
		}
	}
	return shuffle(x, r), api.Manifest{Module: module("r0"), Requires: pick("r")}
}

// find returns the manifest of a module in a registry.
func find(r []api.Manifest, m api.Module) (api.Manifest, bool) {
	for _, x := range r {
		if x.Module == m {
			return x, true
		}
	}
	return api.Manifest{}, false
}

// needed returns the needed modules of l: the definition.
func needed(r []api.Manifest, l ...api.Module) []api.Module {
	l = slices.Clone(l)
	for i := 0; i < len(l); i++ {
		x, _ := find(r, l[i])
		for _, m := range x.Requires {
			if !slices.Contains(l, m) {
				l = append(l, m)
			}
		}
	}
	return l
}

// missing reports whether the registry lacks a module of l, other than the root's.
func missing(r []api.Manifest, root string, l []api.Module) bool {
	return slices.ContainsFunc(l, func(m api.Module) bool {
		_, ok := find(r, m)
		return !ok && m.Path != root
	})
}

// buildList is the definition of BuildList for valid manifests; false if a module is missing.
func buildList(r []api.Manifest, root api.Manifest) ([]api.Module, bool) {
	all := needed(r, root.Requires...)
	if missing(r, root.Module.Path, all) {
		return nil, false
	}
	slices.SortFunc(all, manifest.Compare)
	l := []api.Module{root.Module}
	for i, m := range all {
		if m.Path != root.Module.Path && (i+1 == len(all) || all[i+1].Path != m.Path) {
			l = append(l, m)
		}
	}
	return l, true
}

// TestExamples checks the example of the chapter.
func TestExamples(t *testing.T) {
	r := registry("a1; a2; b0 a2")
	root := requires("r0 a1 b0")
	if l, e := selection.BuildList(r, root); e != api.OK || describe(l) != "r0 a2 b0" {
		t.Errorf("BuildList: %v, %d", l, e)
	}
	if l, e := selection.Reason(r, root, "a"); e != api.OK || describe(l) != "b0 a2" {
		t.Errorf("Reason: %v, %d", l, e)
	}
	if m, e := selection.Downgrade(r, root, module("a1")); e != api.OK || m.Module != root.Module || describe(m.Requires) != "a1" {
		t.Errorf("Downgrade: %v, %d", m, e)
	}
	root = requires("r0 a1 b1")
	if m, e := selection.Downgrade(append(r, requires("b1 a2"), requires("b2")), root, module("a1")); e != api.OK || describe(m.Requires) != "a1" {
		t.Errorf("Downgrade: %v, %d", m, e)
	}
	if m, e := selection.Downgrade(append(registry("b1 a2; a1; a2"), requires("b0")), root, module("a1")); e != api.OK || describe(m.Requires) != "a1 b0" {
		t.Errorf("Downgrade with another b: %v, %d", m, e)
	}
}

// TestCheck checks registries that are not valid, and which error comes first (P46.1).
func TestCheck(t *testing.T) {
	bad := map[api.Errno]api.Manifest{
		api.ErrName: {Module: api.Module{Path: "A"}}, api.ErrKind: {Module: api.Module{Path: "a", Version: api.Version{Major: -1}}}, api.ErrTwice: requires("a1 b0 b1"),
		api.ErrSize: {Module: module("a0")},
	}
	big := bad[api.ErrSize]
	for i := range 65 {
		big.Requires = append(big.Requires, api.Module{Path: "x" + strconv.Itoa(i)})
	}
	bad[api.ErrSize] = big
	root := requires("r0")
	for want, m := range bad {
		for _, r := range [][]api.Manifest{{m}, {requires("b0"), m, requires("b0")}, {m, {Module: api.Module{Path: "/"}}}, {m, m}, append(registry("x0; x0"), m)} {
			if e := selection.Check(r); e != want {
				t.Errorf("Check(%v): %d, want %d", r, e, want)
			}
			if l, e := selection.BuildList(r, requires("r0 r1")); e != want || len(l) != 0 {
				t.Errorf("BuildList(%v): %v, %d, want %d", r, l, e, want)
			}
			if l, e := selection.Reason(r, root, "a"); e != want || len(l) != 0 {
				t.Errorf("Reason(%v): %v, %d, want %d", r, l, e, want)
			}
		}
		if l, e := selection.BuildList(registry("a0"), m); e != want || len(l) != 0 {
			t.Errorf("root %v: %v, %d, want %d", m, l, e, want)
		}
		for _, f := range []func([]api.Manifest, api.Manifest, api.Module) (api.Manifest, api.Errno){selection.Upgrade, selection.Downgrade, func(r []api.Manifest, root api.Manifest, _ api.Module) (api.Manifest, api.Errno) {
			return selection.UpgradeAll(r, root)
		}} {
			if x, e := f([]api.Manifest{m}, root, module("z0")); e != want || !reflect.DeepEqual(x, api.Manifest{}) {
				t.Errorf("%v, %d, want %d", x, e, want)
			}
			if x, e := f(nil, m, module("z0")); e != want || !reflect.DeepEqual(x, api.Manifest{}) {
				t.Errorf("%v, %d, want %d", x, e, want)
			}
		}
	}
	for s, want := range map[string]api.Errno{"": api.OK, "a0; a1; b0 a1": api.OK, "a0; b0; a0": api.ErrTwice, "a0 b1; a0": api.ErrTwice, "a0 r0 z9": api.OK} {
		if e := selection.Check(registry(s)); e != want {
			t.Errorf("Check(%s): %d, want %d", s, e, want)
		}
	}
}

// TestBuildList compares BuildList with the definition (P46.1, P46.4).
func TestBuildList(t *testing.T) {
	x := random(46)
	count := map[api.Errno]int{}
	for range 3000 {
		r, root := some(&x)
		l, e := selection.BuildList(r, root)
		count[e]++
		want, ok := buildList(r, root)
		if !ok {
			if e != api.ErrNone || len(l) != 0 {
				t.Fatalf("BuildList(%v, %v): %v, %d, but a module is missing", r, root, l, e)
			}
			continue
		}
		if e != api.OK || !slices.Equal(l, want) {
			t.Fatalf("BuildList(%v, %v): %v, %d, want %v", r, root, l, e, want)
		}
		if other, e := selection.BuildList(shuffle(&x, r), root); e != api.OK || !slices.Equal(l, other) {
			t.Fatalf("BuildList depends on the order of the registry: %v, %v", l, other)
		}
		satisfied(t, r, root, l)
	}
	if count[api.OK] < 300 || count[api.ErrNone] < 300 {
		t.Errorf("%v", count)
	}
	for _, c := range []struct {
		registry, root, want string
		e                    api.Errno
	}{
		{"", "r0", "r0", api.OK}, {"", "r0 a0", "", api.ErrNone}, {"a0 r5", "r0 a0", "r0 a0", api.OK}, {"a0 r5; r5 b0; b0", "r0 a0", "r0 a0 b0", api.OK}, {"a0 r5; r5 b0", "r0 a0", "", api.ErrNone}, {"a0 r0; r0 b0; b0", "r0 a0", "r0 a0 b0", api.OK}, {"a0 b1; a1; b1 a1; b0", "r0 b0 a0", "r0 a1 b1", api.OK}, {"a1 b9; a2; c0 a2", "r0 a1 c0", "", api.ErrNone}, {"b0; a0", "c0 b0 a0", "c0 a0 b0", api.OK},
	} {
		if l, e := selection.BuildList(registry(c.registry), requires(c.root)); e != c.e || describe(l) != c.want {
			t.Errorf("%s with %s: %s, %d, want %s, %d", c.root, c.registry, describe(l), e, c.want, c.e)
		}
	}
}

// satisfied checks that a build list satisfies all requirements, and that each of its versions is required (P46.4).
func satisfied(t *testing.T, r []api.Manifest, root api.Manifest, l []api.Module) {
	t.Helper()
	all := slices.Clone(root.Requires)
	for _, m := range l[1:] {
		x, _ := find(r, m)
		all = append(all, x.Requires...)
	}
	for _, m := range all {
		if !slices.ContainsFunc(l, func(x api.Module) bool {
			return x.Path == m.Path && (x.Path == root.Module.Path || x.Version.Minor >= m.Version.Minor)
		}) {
			t.Fatalf("%v does not satisfy %v", l, m)
		}
	}
	required := slices.Clone(root.Requires)
	for _, m := range needed(r, root.Requires...) {
		x, _ := find(r, m)
		required = append(required, x.Requires...)
	}
	for _, m := range l[1:] {
		if !slices.Contains(required, m) {
			t.Fatalf("nothing requires %v", m)
		}
	}
}

// TestUpgrade compares Upgrade and UpgradeAll with their definitions (P46.2, P46.4).
func TestUpgrade(t *testing.T) {
	x := random(47)
	count := map[api.Errno]int{}
	for range 4000 {
		r, root := some(&x)
		m := module([]string{"a", "b", "c", "d", "r", "e"}[x.below(6)] + strconv.Itoa(x.below(4)))
		want, errno := api.Manifest{Module: root.Module}, api.OK
		for _, q := range root.Requires {
			if q.Path != m.Path {
				want.Requires = append(want.Requires, q)
			}
		}
		greater := m
		for _, q := range root.Requires {
			if q.Path == m.Path && q.Version.Minor > m.Version.Minor {
				greater = q
			}
		}
		want.Requires = append(want.Requires, greater)
		slices.SortFunc(want.Requires, manifest.Compare)
		_, ok := buildList(r, root)
		_, known := find(r, m)
		switch {
		case !ok, !known:
			errno = api.ErrNone
		case m.Path == "r":
			errno = api.ErrTwice
		default:
			if _, ok := buildList(r, want); !ok {
				errno = api.ErrNone
			}
		}
		if errno != api.OK {
			want = api.Manifest{}
		}
		count[errno]++
		before := slices.Clone(root.Requires)
		got, e := selection.Upgrade(r, root, m)
		if e != errno || !reflect.DeepEqual(got, want) || !slices.Equal(root.Requires, before) {
			t.Fatalf("Upgrade(%v, %v, %v): %v, %d, want %v, %d", r, root, m, got, e, want, errno)
		}
		if e == api.OK {
			l, _ := selection.BuildList(r, got)
			if i := slices.IndexFunc(l, func(q api.Module) bool { return q.Path == m.Path }); i < 0 || l[i].Version.Minor < m.Version.Minor {
				t.Fatalf("%v is not in %v", m, l)
			}
		}
		upgradeAll(t, r, root)
	}
	if count[api.OK] < 300 || count[api.ErrTwice] < 30 || count[api.ErrNone] < 300 {
		t.Errorf("%v", count)
	}
}

// upgradeAll compares UpgradeAll with its definition.
func upgradeAll(t *testing.T, r []api.Manifest, root api.Manifest) {
	t.Helper()
	want, errno := api.Manifest{}, api.ErrNone
	if l, ok := buildList(r, root); ok {
		want.Module, errno = root.Module, api.OK
		for _, m := range l[1:] {
			for _, x := range r {
				if x.Module.Path == m.Path && x.Module.Version.Minor > m.Version.Minor {
					m = x.Module
				}
			}
			want.Requires = append(want.Requires, m)
		}
	}
	if got, e := selection.UpgradeAll(r, root); e != errno || !reflect.DeepEqual(got, want) {
		t.Fatalf("UpgradeAll(%v, %v): %v, %d, want %v, %d", r, root, got, e, want, errno)
	}
}

// TestSizes checks results with as many requirements as are permitted, and more (P46.2).
func TestSizes(t *testing.T) {
	for n, want := range map[int]api.Errno{63: api.OK, 64: api.OK, 65: api.ErrSize} {
		var r []api.Manifest
		root := requires("r0 a0")
		first := requires("a0")
		for i := range n - 1 {
			m := api.Module{Path: "x" + strconv.Itoa(i)}
			r = append(r, api.Manifest{Module: m})
			if i < 60 {
				first.Requires = append(first.Requires, m)
			} else {
				root.Requires = append(root.Requires, m)
			}
		}
		r = append(r, first)
		if l, e := selection.BuildList(r, root); e != api.OK || len(l) != n+1 {
			t.Errorf("BuildList: %d modules, %d", len(l), e)
		}
		if m, e := selection.UpgradeAll(r, root); e != want || e == api.OK && len(m.Requires) != n || e != api.OK && !reflect.DeepEqual(m, api.Manifest{}) {
			t.Errorf("UpgradeAll with %d: %v, %d, want %d", n, m, e, want)
		}
		full := api.Manifest{Module: module("r0")}
		for i := range n - 1 {
			full.Requires = append(full.Requires, api.Module{Path: "x" + strconv.Itoa(i)})
		}
		if m, e := selection.Upgrade(r, full, module("a0")); e != want || e == api.OK && len(m.Requires) != n {
			t.Errorf("Upgrade with %d: %v, %d, want %d", n, m, e, want)
		}
		full.Requires = append(full.Requires, module("a0"))
		if n == 64 {
			if m, e := selection.Upgrade(r, full, module("a0")); e != api.OK || len(m.Requires) != 64 {
				t.Errorf("Upgrade of a requirement: %v, %d", m, e)
			}
		}
	}
}

// TestDowngrade compares Downgrade with its definition (P46.2, P46.4).
func TestDowngrade(t *testing.T) {
	x := random(48)
	count := map[api.Errno]int{}
	for range 6000 {
		r, root := some(&x)
		m := module([]string{"a", "b", "c", "d", "r", "e"}[x.below(6)] + strconv.Itoa(x.below(4)))
		want, errno := api.Manifest{Module: root.Module}, api.OK
		for _, q := range root.Requires {
			for i := q.Version.Minor; i >= 0; i-- {
				c := module(q.Path + strconv.Itoa(i))
				_, ok := find(r, c)
				all := needed(r, c)
				if ok && !missing(r, "r", all) && !slices.ContainsFunc(all, func(y api.Module) bool { return y.Path == m.Path && y.Version.Minor > m.Version.Minor }) {
					want.Requires = append(want.Requires, c)
					break
				}
			}
		}
		slices.SortFunc(want.Requires, manifest.Compare)
		_, ok := buildList(r, root)
		_, known := find(r, m)
		switch {
		case !ok, !known:
			want, errno = api.Manifest{}, api.ErrNone
		case m.Path == "r":
			want, errno = api.Manifest{}, api.ErrTwice
		}
		count[errno]++
		got, e := selection.Downgrade(r, root, m)
		if e != errno || !reflect.DeepEqual(got, want) {
			t.Fatalf("Downgrade(%v, %v, %v): %v, %d, want %v, %d", r, root, m, got, e, want, errno)
		}
		if e != api.OK {
			continue
		}
		l, e := selection.BuildList(r, got)
		if e != api.OK || slices.ContainsFunc(l, func(q api.Module) bool { return q.Path == m.Path && q.Version.Minor > m.Version.Minor }) {
			t.Fatalf("after Downgrade to %v: %v, %d", m, l, e)
		}
	}
	if count[api.OK] < 500 || count[api.ErrTwice] < 50 || count[api.ErrNone] < 500 {
		t.Errorf("%v", count)
	}
}

// chains returns all chains of different modules from one of l to a goal.
func chains(r []api.Manifest, l []api.Module, goal api.Module, before []api.Module) [][]api.Module {
	var all [][]api.Module
	for _, m := range l {
		if slices.Contains(before, m) {
			continue
		}
		chain := append(slices.Clone(before), m)
		if m == goal {
			all = append(all, chain)
			continue
		}
		x, _ := find(r, m)
		all = append(all, chains(r, x.Requires, goal, chain)...)
	}
	return all
}

// TestReason compares Reason with the least of all chains (P46.3).
func TestReason(t *testing.T) {
	x := random(49)
	lengths := map[int]int{}
	for range 3000 {
		r, root := some(&x)
		list, ok := buildList(r, root)
		for _, path := range []string{"a", "b", "c", "d", "e", "r", ""} {
			l, e := selection.Reason(r, root, path)
			i := slices.IndexFunc(list, func(m api.Module) bool { return m.Path == path })
			if !ok || i < 1 {
				if e != api.ErrNone || len(l) != 0 {
					t.Fatalf("Reason(%v, %v, %s): %v, %d", r, root, path, l, e)
				}
				continue
			}
			want := slices.MinFunc(chains(r, root.Requires, list[i], nil), func(a, b []api.Module) int {
				return cmp.Or(cmp.Compare(len(a), len(b)), slices.CompareFunc(a, b, manifest.Compare))
			})
			if e != api.OK || !slices.Equal(l, want) {
				t.Fatalf("Reason(%v, %v, %s): %v, %d, want %v", r, root, path, l, e, want)
			}
			lengths[len(l)]++
		}
	}
	if lengths[1] == 0 || lengths[2] == 0 || lengths[3] == 0 {
		t.Errorf("%v", lengths)
	}
}

// TestLarge checks that a large registry is not too slow.
func TestLarge(t *testing.T) {
	var r []api.Manifest
	for i := range 20000 {
		m := api.Manifest{Module: api.Module{Path: "x" + strconv.Itoa(i/100), Version: api.Version{Minor: i % 100}}}
		if i >= 100 {
			m.Requires = []api.Module{{Path: "x" + strconv.Itoa(i/100-1), Version: api.Version{Minor: (i + 1) % 100}}}
		}
		r = append(r, m)
	}
	root := api.Manifest{Module: module("r0"), Requires: []api.Module{{Path: "x199", Version: api.Version{Minor: 99}}}}
	l, e := selection.BuildList(r, root)
	if e != api.OK || len(l) != 201 {
		t.Errorf("%d modules, %d", len(l), e)
	}
	if chain, e := selection.Reason(r, root, "x0"); e != api.OK || len(chain) != 200 {
		t.Errorf("Reason: %d modules, %d", len(chain), e)
	}
	if m, e := selection.Downgrade(r, root, api.Module{Path: "x0"}); e != api.OK || len(m.Requires) != 1 {
		t.Errorf("Downgrade: %v, %d", m, e)
	}
}
