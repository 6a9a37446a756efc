package loader_test

import (
	"cmp"
	"fmt"
	"maps"
	"reflect"
	"slices"
	"strings"
	"testing"

	"configlang/api"
	"configlang/loader"
	"configlang/parser"
	"configlang/scopes"
	"configlang/selection"
)

// random returns numbers that are the same in each run.
type random uint64

func (x *random) below(n int) int {
	*x = *x*6364136223846793005 + 1442695040888963407
	return int(uint64(*x)>>33) % n
}

// pick returns one of some elements.
func pick[T any](x *random, l ...T) T {
	return l[x.below(len(l))]
}

// module returns a module with the version v1.minor.0.
func module(path string, minor int) api.Module {
	return api.Module{Path: path, Version: api.Version{Major: 1, Minor: minor}}
}

// release returns a release of a module with sources that are given by names and texts in turn.
func release(m api.Module, requires []api.Module, sources ...string) api.Release {
	r := api.Release{Manifest: api.Manifest{Module: m, Requires: requires}}
	for i := 0; i < len(sources); i += 2 {
		r.Sources = append(r.Sources, api.Source{Name: sources[i], Text: sources[i+1]})
	}
	return r
}

// requiring returns the manifest of a root with the path m.
func requiring(l ...api.Module) api.Manifest {
	return api.Manifest{Module: module("m", 0), Requires: l}
}

// file returns the file of a text.
func file(t *testing.T, text string) api.File {
	t.Helper()
	f, fault := parser.File(text)
	if fault != (api.Fault{}) {
		t.Fatalf("%q: %v", text, fault)
	}
	return f
}

// TestExamples checks the examples of the chapter.
func TestExamples(t *testing.T) {
	releases := []api.Release{release(module("p", 0), nil, "p.cl", "a: 1"), release(module("a", 0), nil, "b/c/x.cl", "x: 1", "b/c/d/x.cl", "x: 2", "b/x.cl", "x: 3")}
	p, f := loader.Program([]string{"import q \"p\"\nb: q.a", "import r \"p\"\nc: r.a"}, requiring(module("p", 0)), releases)
	want := api.Program{Packages: []api.Package{
		{Path: "m", Files: []api.File{file(t, "import q \"p\"\nb: q.a"), file(t, "import r \"p\"\nc: r.a")}},
		{Path: "p", Files: []api.File{file(t, "a: 1")}},
	}}
	if f != (api.Fault{}) || !reflect.DeepEqual(p, want) {
		t.Errorf("Program: %v, %v", p, f)
	}
	l, e := loader.Files(releases, []api.Module{module("a", 0)}, "a/b/c")
	if e != api.OK || !slices.Equal(l, []api.Source{{Name: "b/c/x.cl", Text: "x: 1"}}) {
		t.Errorf("Files: %v, %d", l, e)
	}
}

// TestFiles checks the source files of packages (P49.1).
func TestFiles(t *testing.T) {
	releases := []api.Release{
		release(module("a", 1), nil, "old.cl", ""),
		release(module("a", 2), nil, "z.cl", "1", "b/z.cl", "2", "B.cl", "3", "b.cl", "4", "x.txt", "5", "cl", "6", ".cl", "7", "x.cl.", "8", "b/.cl", "9", "b/c/d.cl", "10", "/e.cl", "11", "bb/x.cl", "12", "b/x.CL", "13", "b\\x.cl", "14", "c//x.cl", "15"),
		release(module("a", 2), nil, "second.cl", "", "only/second.cl", ""),
		release(module("a/b", 0), nil, "c/x.cl", "16"),
		release(module("t", 0), nil, "x.cl", "17", "y.txt", "18", "y.txt", "18", "z/x.cl", "19"),
		release(module("u", 0), nil, "u.cl", "20", "u.cl", "20"),
		release(module("e", 0), nil),
		release(module("odd//path", 0), nil, "x.cl", "21", "y/x.cl", "22"),
	}
	a1, a2 := []api.Module{module("a", 1)}, []api.Module{module("a", 2)}
	for i, c := range []struct {
		modules []api.Module
		path    string
		want    string // the texts, in the order of the names
		e       api.Errno
	}{
		{a2, "a", "7 3 4 14 1", api.OK},
		{a2, "a/", "7 3 4 14 1", api.OK}, // what is behind the slash is empty
		{a2, "a/b", "9 2", api.OK},
		{a2, "a/b/c", "10", api.OK},
		{a2, "a/bb", "12", api.OK},
		{a2, "a/c/", "15", api.OK},
		{a2, "a//", "", api.ErrNone},
		{a1, "a", "", api.OK},
		{a1, "a/b", "", api.ErrNone},
		{a2, "a/only", "", api.ErrNone}, // the first release counts
		{[]api.Module{module("a", 3)}, "a", "", api.ErrNone},
		{[]api.Module{module("a", 2), module("a", 1)}, "a", "7 3 4 14 1", api.OK},
		{[]api.Module{module("a", 2), module("a/b", 0)}, "a/b/c", "16", api.OK}, // the longest path owns it
		{[]api.Module{module("a", 2), module("a/b", 0)}, "a/b", "", api.ErrNone},
		{[]api.Module{module("a", 2), module("a/b", 1)}, "a/b", "", api.ErrNone},
		{[]api.Module{module("t", 0)}, "t", "", api.ErrTwice},
		{[]api.Module{module("t", 0)}, "t/z", "", api.ErrTwice},
		{[]api.Module{module("t", 0)}, "t/y", "", api.ErrNone},
		{[]api.Module{module("u", 0)}, "u", "", api.ErrTwice},
		{[]api.Module{module("e", 0)}, "e", "", api.ErrNone},
		{[]api.Module{module("odd//path", 0)}, "odd//path/y", "22", api.OK},
		{a2, "b", "", api.ErrNone},
		{a2, "ab", "", api.ErrNone},
		{a2, "", "", api.ErrNone},
		{nil, "a", "", api.ErrNone},
	} {
		l, e := loader.Files(releases, c.modules, c.path)
		var texts []string
		for j, s := range l {
			texts = append(texts, s.Text)
			if j > 0 && l[j-1].Name >= s.Name {
				t.Errorf("case %d: %q is not in order", i, s.Name)
			}
		}
		if got := strings.Join(texts, " "); e != c.e || got != c.want || e == api.OK && len(l) == 0 {
			t.Errorf("case %d: %q, %d, want %q, %d", i, got, e, c.want, c.e)
		}
	}
	if _, e := loader.Files(nil, a2, "a"); e != api.ErrNone {
		t.Errorf("no releases: %d", e)
	}
}

// importing returns a package with one file for each list of paths.
func importing(path string, lists ...[]string) api.Package {
	p := api.Package{Path: path}
	for _, l := range lists {
		var f api.File
		for _, s := range l {
			f.Imports = append(f.Imports, api.Import{Path: s})
		}
		p.Files = append(p.Files, f)
	}
	return p
}

// permutations returns all orders of n numbers in ascending order.
func permutations(n int) [][]int {
	l := [][]int{nil}
	for range n {
		var longer [][]int
		for _, p := range l {
			for i := range n {
				if !slices.Contains(p, i) {
					longer = append(longer, append(slices.Clone(p), i))
				}
			}
		}
		l = longer
	}
	return l
}

// TestGraph compares Graph and Order with their definitions on random programs (P49.2).
func TestGraph(t *testing.T) {
	x := random(49)
	names := []string{"b", "a", "d", "c", "e"}
	counts := map[api.Errno]int{}
	for range 4000 {
		n := x.below(6)
		var p api.Program
		want := make([][]int, n)
		e := api.OK
		for i := range n {
			var lists [][]string
			for range 1 + x.below(2) {
				var l []string
				for range x.below(3) {
					k := x.below(n)
					if x.below(3) > 0 {
						k = x.below(i + 1)
					}
					if k == i && x.below(3) > 0 || x.below(80) == 0 {
						continue
					}
					l = append(l, names[k])
					if !slices.Contains(want[i], k) {
						want[i] = append(want[i], k)
					}
				}
				if x.below(100) == 0 {
					l = append(l, "none")
					e = api.ErrImport
				}
				lists = append(lists, l)
			}
			slices.Sort(want[i])
			p.Packages = append(p.Packages, importing(names[i], lists...))
		}
		if n > 1 && x.below(20) == 0 {
			p.Packages[0].Path = p.Packages[1].Path
			for _, l := range want {
				if slices.Contains(l, 0) || slices.Contains(l, 1) {
					e = api.ErrImport
				}
			}
		}
		g, ge := loader.Graph(p)
		if ge != e || e == api.OK && !slices.EqualFunc(g, want, slices.Equal) || e != api.OK && g != nil {
			t.Fatalf("Graph(%v): %v, %d, want %v, %d", p, g, ge, want, e)
		}
		i := slices.IndexFunc(permutations(n), func(l []int) bool {
			return !slices.ContainsFunc(l, func(k int) bool {
				return slices.ContainsFunc(want[k], func(m int) bool { return slices.Index(l, m) >= slices.Index(l, k) })
			})
		})
		var order []int
		if e == api.OK && i < 0 {
			e = api.ErrCycle
		} else if e == api.OK {
			order = permutations(n)[i]
		}
		got, oe := loader.Order(p)
		if oe != e || !slices.Equal(got, order) {
			t.Fatalf("Order(%v): %v, %d, want %v, %d", p, got, oe, order, e)
		}
		counts[e]++
	}
	if counts[api.OK] < 500 || counts[api.ErrCycle] < 500 || counts[api.ErrImport] < 100 {
		t.Errorf("counts: %v", counts)
	}
}

// TestErrors checks the errors of Program and their order (P49.3).
func TestErrors(t *testing.T) {
	p, q, r := module("p", 0), module("q", 0), module("r", 0)
	all := []api.Release{
		release(p, []api.Module{q}, "p.cl", "a: 1", "bad/p.cl", "a: ", "twice/p.cl", "let a = 1, let a = 2", "cycle/p.cl", "import c \"q/cycle\"\n", "self/p.cl", "import s \"p/self\"\n", "main/p.cl", "import m \"m\"\n", "then/p.cl", "import n \"a/none\"\n", "two/x.cl", "package x\n", "two/y.cl", "package y\n"),
		release(q, nil, "q.cl", "import p \"p\"\nb: p.a", "cycle/q.cl", "import c \"p/cycle\"\n", "z.txt", ""),
		release(r, nil, "r.cl", "a: 1", "x", "", "x", ""),
		release(module("m", 0), nil, "own/x.cl", "a: 1"),
	}
	root := requiring(p, r)
	uses := func(paths ...string) string {
		s := ""
		for i, path := range paths {
			s += fmt.Sprintf("import x%d \"%s\"\n", i, path)
		}
		return s
	}
	for i, c := range []struct {
		main     []string
		root     api.Manifest
		releases []api.Release
		f        api.Fault
	}{
		{[]string{"a: 1", "b: ", "c:"}, api.Manifest{}, append(all, all[0]), api.Fault{Errno: api.ErrSyntax, At: 3}},
		{[]string{"a: 1 ?", "b"}, root, all, api.Fault{Errno: api.ErrSyntax, At: 5}},
		{[]string{uses("none")}, root, append(all, all[0]), api.Fault{Errno: api.ErrTwice}},
		{[]string{uses("none")}, api.Manifest{}, all, api.Fault{Errno: api.ErrName}},
		{[]string{uses("none")}, requiring(module("p", 7)), all, api.Fault{Errno: api.ErrNone}},
		{[]string{uses("none")}, root, all, api.Fault{Errno: api.ErrNone}},
		{[]string{uses("m")}, root, all, api.Fault{Errno: api.ErrImport}},
		{[]string{uses("p/main")}, root, all, api.Fault{Errno: api.ErrImport}},
		{[]string{uses("m/none")}, root, all, api.Fault{Errno: api.ErrNone}},
		{[]string{uses("m/own")}, root, all, api.Fault{}},
		{[]string{uses("m/own")}, root, all[:3], api.Fault{Errno: api.ErrNone}},
		{[]string{uses("r")}, root, all, api.Fault{Errno: api.ErrTwice}},
		{[]string{uses("r")}, requiring(p), all, api.Fault{Errno: api.ErrNone}},
		{[]string{uses("p/bad")}, root, all, api.Fault{Errno: api.ErrText}},
		// The least missing path decides, also if it is needed by a package that is loaded later.
		{[]string{uses("p/bad", "m")}, root, all, api.Fault{Errno: api.ErrImport}},
		{[]string{uses("zz", "p/bad"), uses("r")}, root, all, api.Fault{Errno: api.ErrText}},
		{[]string{uses("zz", "r"), uses("q")}, root, all, api.Fault{Errno: api.ErrTwice}},
		{[]string{uses("zz", "p/then"), uses("m")}, root, all, api.Fault{Errno: api.ErrImport}},
		{[]string{uses("r", "p/then")}, root, all, api.Fault{Errno: api.ErrNone}},
		// Then cycles, and then names.
		{[]string{uses("p/cycle", "p/twice")}, root, all, api.Fault{Errno: api.ErrCycle}},
		{[]string{uses("p/self")}, root, all, api.Fault{Errno: api.ErrCycle}},
		{[]string{uses("p/cycle", "zz")}, root, all, api.Fault{Errno: api.ErrNone}},
		{[]string{uses("p/twice")}, root, all, api.Fault{Errno: api.ErrTwice}},
		{[]string{uses("p/two")}, root, all, api.Fault{Errno: api.ErrName}},
		{[]string{uses("p/twice", "p/two")}, root, all, api.Fault{Errno: api.ErrTwice}},
		{[]string{"package a\n" + uses("p/twice"), "package b\n"}, root, all, api.Fault{Errno: api.ErrName}},
		{[]string{"let a = 1, a: 2", uses("p/two")}, root, all, api.Fault{Errno: api.ErrTwice}},
		{nil, root, all, api.Fault{}},
		{[]string{uses("q"), "a: unknown"}, root, all, api.Fault{}},
	} {
		got, f := loader.Program(c.main, c.root, c.releases)
		if f != c.f || f.Errno != api.OK && !reflect.DeepEqual(got, api.Program{}) {
			t.Errorf("case %d: %v, %v, want %v", i, got, f, c.f)
		}
	}
	got, f := loader.Program([]string{uses("q")}, root, all)
	if f != (api.Fault{}) || len(got.Packages) != 3 || got.Packages[0].Path != "m" || got.Packages[1].Path != "p" || got.Packages[2].Path != "q" {
		t.Errorf("%v, %v", got, f)
	}
	if got, f := loader.Program(nil, root, all); f != (api.Fault{}) || len(got.Packages) != 1 || got.Packages[0].Path != "m" || len(got.Packages[0].Files) != 0 {
		t.Errorf("%v, %v", got, f)
	}
}

// paths are those that random sources import.
func paths() []string {
	return []string{"a", "a/p", "a/p/q", "b", "b/p", "c.d/e", "m/p"}
}

// someText returns a random text with imports.
func someText(x *random) string {
	s := ""
	for i, path := range paths() {
		if x.below(9) == 0 {
			s += fmt.Sprintf("import i%d \"%s\"\n", i, path)
		}
	}
	return s + pick(x, "a: 1", "", "let a = 1, b: a", "a: 1", "a: 1", "a: 1", pick(x, "a", "a: 1", "let a = 1, a: 2", "a:"))
}

// registry returns random releases.
func registry(x *random) []api.Release {
	var l []api.Release
	for _, path := range []string{"a", "b", "c.d/e", "a/p", "m"} {
		for minor := range 2 {
			r := release(module(path, minor), nil)
			for _, other := range []string{"a", "b", "c.d/e"} {
				if other != path && x.below(3) == 0 {
					r.Manifest.Requires = append(r.Manifest.Requires, module(other, x.below(2)))
				}
			}
			for _, name := range []string{"x.cl", "y.cl", "p/x.cl", "p/y.txt", "p/q/z.cl", "q/x.cl"} {
				if x.below(3) > 0 {
					r.Sources = append(r.Sources, api.Source{Name: name, Text: someText(x)})
				}
			}
			l = append(l, r)
		}
	}
	return l
}

// define returns the program by its definition.
func define(main []string, root api.Manifest, releases []api.Release) (api.Program, api.Errno) {
	var manifests []api.Manifest
	for _, r := range releases {
		manifests = append(manifests, r.Manifest)
	}
	modules, e := selection.BuildList(manifests, root)
	if e != api.OK {
		return api.Program{}, e
	}
	first := api.Package{Path: root.Module.Path}
	for _, s := range main {
		f, _ := parser.File(s)
		first.Files = append(first.Files, f)
	}
	loaded := map[string]api.Package{}
	for {
		missing := map[string]bool{}
		for _, p := range append(slices.Collect(maps.Values(loaded)), first) {
			for _, f := range p.Files {
				for _, i := range f.Imports {
					if _, ok := loaded[i.Path]; !ok {
						missing[i.Path] = true
					}
				}
			}
		}
		if len(missing) == 0 {
			break
		}
		path := slices.Min(slices.Collect(maps.Keys(missing)))
		if path == first.Path {
			return api.Program{}, api.ErrImport
		}
		sources, e := loader.Files(releases, modules, path)
		if e != api.OK {
			return api.Program{}, e
		}
		p := api.Package{Path: path}
		for _, s := range sources {
			f, fault := parser.File(s.Text)
			if fault.Errno != api.OK {
				return api.Program{}, api.ErrText
			}
			p.Files = append(p.Files, f)
		}
		loaded[path] = p
	}
	p := api.Program{Packages: []api.Package{first}}
	for _, path := range slices.Sorted(maps.Keys(loaded)) {
		p.Packages = append(p.Packages, loaded[path])
	}
	if _, e := loader.Order(p); e != api.OK {
		return api.Program{}, e
	}
	for _, pack := range p.Packages {
		if _, e := scopes.Uses(pack); e != api.OK {
			return api.Program{}, e
		}
	}
	return p, api.OK
}

// shuffle puts a list in another order.
func shuffle[T any](x *random, l []T) {
	for i := range l {
		j := x.below(i + 1)
		l[i], l[j] = l[j], l[i]
	}
}

// TestRandom compares programs with their definition, and loads them from releases in another order (P49.3, P49.4).
func TestRandom(t *testing.T) {
	x := random(94)
	counts := map[api.Errno]int{}
	sizes := map[int]int{}
	for counts[api.OK] < 400 {
		main := []string{someText(&x), "import i0 \"" + pick(&x, paths()...) + "\"\n"}
		if slices.ContainsFunc(main, func(s string) bool { _, f := parser.File(s); return f.Errno != api.OK }) {
			continue
		}
		root := requiring(module("a", x.below(2)), module("b", x.below(2)))
		if x.below(2) == 0 {
			root.Requires = append(root.Requires, module("a/p", x.below(2)), module("c.d/e", x.below(2)))
		}
		releases := registry(&x)
		before := fmt.Sprint(main, root, releases)
		p, f := loader.Program(main, root, releases)
		want, e := define(main, root, releases)
		if f != (api.Fault{Errno: e}) || !reflect.DeepEqual(p, want) {
			t.Fatalf("%s: %v, %v, want %v, %d", before, p, f, want, e)
		}
		if fmt.Sprint(main, root, releases) != before {
			t.Fatalf("%s is changed", before)
		}
		counts[e]++
		sizes[len(p.Packages)]++
		shuffle(&x, releases)
		for i := range releases {
			shuffle(&x, releases[i].Sources)
			shuffle(&x, releases[i].Manifest.Requires)
		}
		if again, g := loader.Program(main, root, releases); g != f || !reflect.DeepEqual(again, p) {
			t.Fatalf("%s in another order: %v, %v", before, again, g)
		}
		if e == api.OK {
			checkLoaded(t, p)
		}
	}
	if sizes[3] < 20 || sizes[4] < 5 || counts[api.ErrNone] < 50 || counts[api.ErrText] < 20 || counts[api.ErrCycle] < 20 {
		t.Errorf("counts: %v, sizes: %v", counts, sizes)
	}
}

// checkLoaded checks that each import has one package, which comes earlier in the order (P49.4).
func checkLoaded(t *testing.T, p api.Program) {
	t.Helper()
	order, e := loader.Order(p)
	if e != api.OK || len(order) != len(p.Packages) {
		t.Fatalf("Order: %v, %d", order, e)
	}
	if !slices.IsSortedFunc(p.Packages[1:], func(a, b api.Package) int { return cmp.Compare(a.Path, b.Path) }) {
		t.Fatalf("%v is not in order", p)
	}
	for n, i := range order {
		for _, f := range p.Packages[i].Files {
			for _, im := range f.Imports {
				var found []int
				for k, other := range p.Packages {
					if other.Path == im.Path {
						found = append(found, k)
					}
				}
				if len(found) != 1 || slices.Index(order, found[0]) >= n {
					t.Fatalf("%v: %s", p, im.Path)
				}
			}
		}
	}
}

// TestOwner checks that packages come from the versions of the build list (P49.3).
func TestOwner(t *testing.T) {
	a := func(n int) api.Release {
		return release(module("a", n), nil, "x.cl", fmt.Sprintf("v: %d", n))
	}
	releases := []api.Release{a(3), a(1), a(2), release(module("b", 0), []api.Module{module("a", 2)}, "x.cl", "")}
	p, f := loader.Program([]string{"import a \"a\"\n"}, requiring(module("a", 1), module("b", 0)), releases)
	if f != (api.Fault{}) || len(p.Packages) != 2 || p.Packages[1].Files[0].Decls[0].Subs[0].Num != 2*api.Unit {
		t.Errorf("%v, %v", p, f)
	}
}
