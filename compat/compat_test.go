package compat_test

import (
	"slices"
	"strings"
	"testing"

	"configlang/api"
	"configlang/automaton"
	"configlang/compat"
	"configlang/data"
	"configlang/instance"
	"configlang/lang"
	"configlang/parts"
	"configlang/refine"
	"configlang/scalar"
	"configlang/semver"
	"configlang/steps"
	"configlang/subsume"
	"configlang/trial"
	"configlang/value"
)

// Values of the tests below.
var (
	one      = trial.Number(1)
	two      = trial.Number(2)
	ints     = trial.Kind("int")
	numbers  = trial.Kind("number")
	top      = value.Top().V
	bottom   = api.Value{}
	list     = trial.List
	record   = trial.Record
	open     = trial.Open
	shut     = trial.Shut
	present  = trial.Present
	required = trial.Required
	plain    = value.Plain
	marked   = trial.Marked
	union    = trial.Union
)

// shown returns a text of a value.
func shown(v api.Value) string {
	return trial.Show(plain(v))
}

// written returns a text of paths.
func written(l [][]api.Step) string {
	return strings.Join(parts.Each(l, steps.Text), " ")
}

// optional returns the struct case without fields in which a label has a value if it occurs, and other labels another one.
func optional(label string, v, others api.Value) api.StructCase {
	set := automaton.Word(label)
	return api.StructCase{Classes: []api.Class{{Set: set, Val: plain(v)}, {Set: lang.Not(set), Val: plain(others)}}}
}

// made returns the canonical form of a value.
func made(v api.Value) api.Value {
	return trial.Made(plain(v)).V
}

// random returns two random valid values, which are often versions of the same schema.
func random(x *trial.Random) (api.Value, api.Value) {
	switch levels := 2 + x.Below(3); x.Below(5) {
	case 0:
		a, b := trial.Near(x)
		return a.V, b.V
	case 1:
		return trial.Simple(x), trial.Simple(x)
	default:
		d := randomDraft(x, levels)
		old, new := d, edited(x, d, levels)
		more := trial.Pick(x, bottom, bottom, one, list(trial.Closed(ints)))
		return union(old.value(), more), union(new.value(), more)
	}
}

// change returns the change by its definition.
func change(t *testing.T, old, new api.Value) int {
	t.Helper()
	keeps, e := subsume.Includes(new, old)
	had, f := subsume.Includes(old, new)
	switch {
	case e != api.OK || f != api.OK:
		t.Fatalf("Includes: %d, %d", e, f)
	case !keeps:
		return semver.MajorChange
	case !had:
		return semver.MinorChange
	}
	return semver.PatchChange
}

// check compares the functions with their definitions for two valid values, and returns the change and the paths.
func check(t *testing.T, old, new api.Value) (int, [][]api.Step) {
	t.Helper()
	a, b := parts.Copy(old), parts.Copy(new)
	n, e := compat.Change(old, new)
	if want := change(t, old, new); n != want || e != api.OK {
		t.Fatalf("Change(%s, %s): %d, %d, want %d", shown(old), shown(new), n, e, want)
	}
	l, e := compat.Breaking(old, new)
	if want := breaking(old, new); !slices.EqualFunc(l, want, slices.Equal) || e != api.OK {
		t.Fatalf("Breaking(%s, %s): %s, %d, want %s", shown(old), shown(new), written(l), e, written(want))
	}
	d, found, e := compat.Example(old, new)
	if found && (!instance.Has(old, d) || instance.Has(new, d)) || !found && d.Kind != 0 || e != api.OK {
		s, _ := data.Text(d)
		t.Fatalf("Example(%s, %s): %s, %v, %d", shown(old), shown(new), s, found, e)
	}
	if major := n == semver.MajorChange; found != major || (len(l) > 0) != major {
		t.Fatalf("%s and %s: change %d, example %v, paths %s", shown(old), shown(new), n, found, written(l))
	}
	for i, path := range l {
		if !steps.Valid(path) || i > 0 && steps.Compare(l[i-1], path) >= 0 {
			t.Fatalf("Breaking(%s, %s): %s", shown(old), shown(new), written(l))
		}
	}
	memory := trial.Memory{}
	trial.Note(memory, l)
	for _, path := range l {
		trial.Note(memory, path)
	}
	if memory.Twice() || !parts.Same(a, old) || !parts.Same(b, new) {
		t.Fatalf("Breaking(%s, %s): shared memory", shown(a), shown(b))
	}
	return n, l
}

// TestRandom compares Change, Breaking and Example with their definitions (P51.1 to P51.3, P51.5).
func TestRandom(t *testing.T) {
	x := trial.Random(511)
	var count [3]int
	here, several, long := 0, 0, 0
	for range 4000 {
		old, new := random(&x)
		n, l := check(t, old, new)
		count[n]++
		if len(l) == 1 && len(l[0]) == 0 {
			here++
		}
		if len(l) > 1 {
			several++
		}
		if slices.ContainsFunc(l, func(path []api.Step) bool { return len(path) > 1 }) {
			long++
		}
		// Data tells changes, too.
		for range 3 {
			d := trial.DataNear(&x, trial.Pick(&x, old, new))
			before, after := trial.Has(old, d), trial.Has(new, d)
			if before && !after && n != semver.MajorChange || !before && after && n == semver.PatchChange {
				t.Fatalf("Change(%s, %s): %d", shown(old), shown(new), n)
			}
		}
	}
	if slices.Min(count[:]) < 300 || here < 200 || several < 400 || long < 300 {
		t.Errorf("changes %v, %d empty paths, %d several paths, %d long ones", count, here, several, long)
	}
}

// TestCompose checks changes that are made one after the other (P51.5).
func TestCompose(t *testing.T) {
	x := trial.Random(512)
	kept, major := 0, 0
	for range 1500 {
		a, b := random(&x)
		c := trial.Made(marked(trial.Lower(&x, trial.Pick(&x, a, b, top)), bottom)).V
		l := []api.Value{a, b, c, union(b, c)}
		for range 6 {
			u, v, w := trial.Pick(&x, l...), trial.Pick(&x, l...), trial.Pick(&x, l...)
			first, _ := compat.Change(u, v)
			second, _ := compat.Change(v, w)
			if first == semver.MajorChange || second == semver.MajorChange {
				major++
				continue
			}
			// What is gained stays.
			n, _ := compat.Change(u, w)
			if n != max(first, second) {
				t.Fatalf("from %s to %s to %s: %d, %d, %d", shown(u), shown(v), shown(w), first, second, n)
			}
			kept++
		}
	}
	if kept < 1000 || major < 1000 {
		t.Errorf("%d are kept, %d are not", kept, major)
	}
}

// TestExamples checks changes and paths for some values (P51.1 to P51.3).
func TestExamples(t *testing.T) {
	bool := trial.Kind("bool")
	field := func(label string, v api.Value) api.Value { return record(shut(present(label, v))) }
	both := func(l ...api.Value) api.Value {
		all := bottom
		for _, v := range l {
			all = union(all, v)
		}
		return all
	}
	pair := list(trial.Closed(one))
	withDefault := record(shut(api.Field{Label: "a", Presence: api.Present, Val: marked(ints, one)}))
	loose := list(api.ListCase{Items: []api.Val{marked(ints, one)}})
	for i, c := range []struct {
		old, new api.Value
		change   int
		paths    string
	}{
		{field("a", ints), field("a", numbers), semver.MinorChange, ""}, {record(optional("a", ints, bottom)), record(shut(required("a", ints))), semver.MajorChange, "a"}, // example 1
		{field("a", numbers), field("a", ints), semver.MajorChange, "a"}, {record(shut(required("a", ints))), record(optional("a", ints, bottom)), semver.MinorChange, ""}, {record(shut(required("a", ints))), field("a", ints), semver.PatchChange, ""}, {field("a", ints), record(shut(required("a", ints))), semver.PatchChange, ""},
		{record(optional("a", ints, bottom)), field("a", ints), semver.MajorChange, "a"}, {record(optional("a", ints, bottom)), field("a", one), semver.MajorChange, "a"}, {field("a", ints), field("b", ints), semver.MajorChange, "a b"},
		{top, top, semver.PatchChange, ""}, {top, one, semver.MajorChange, "."}, {one, top, semver.MinorChange, ""}, {bottom, one, semver.MinorChange, ""}, {one, bottom, semver.MajorChange, "."}, {bottom, bottom, semver.PatchChange, ""}, {ints, one, semver.MajorChange, "."}, {one, two, semver.MajorChange, "."}, {one, union(one, two), semver.MinorChange, ""},
		{top, record(open()), semver.MajorChange, "."}, {record(open()), top, semver.MinorChange, ""}, {record(open()), record(shut()), semver.MajorChange, "."}, {record(open()), bottom, semver.MajorChange, "."}, {record(shut()), record(open()), semver.MinorChange, ""},
		// Defaults make no difference, but other list cases do.
		{withDefault, field("a", ints), semver.PatchChange, ""}, {union(loose, field("a", ints)), union(list(trial.Closed(ints)), field("a", ints)), semver.PatchChange, ""}, {union(loose, field("a", ints)), union(list(trial.Closed(ints)), field("a", one)), semver.MajorChange, "."},
		{union(loose, field("a", ints)), union(loose, field("a", one)), semver.MajorChange, "a"}, {union(withDefault, pair), union(field("a", one), pair), semver.MajorChange, "a"},
		// Only one struct case, with the same scalars and lists, is looked into.
		{both(field("a", ints), one), both(field("a", one), one), semver.MajorChange, "a"}, {both(field("a", ints), one), both(field("a", one), two), semver.MajorChange, "."}, {both(field("a", ints), one), both(field("a", one), ints), semver.MajorChange, "."}, {both(field("a", ints), pair), both(field("a", one), pair), semver.MajorChange, "a"}, {both(field("a", ints), pair), field("a", one), semver.MajorChange, "."},
		{both(field("a", ints), pair, one), both(field("a", one), pair, one), semver.MajorChange, "a"}, {both(field("a", ints), field("b", ints)), field("a", ints), semver.MajorChange, "."}, {field("a", ints), both(field("a", one), field("b", ints)), semver.MajorChange, "."}, {field("a", union(one, two)), both(field("a", one), field("a", two)), semver.PatchChange, ""},
		{list(trial.Closed(ints)), list(trial.Closed(one)), semver.MajorChange, "."}, {field("a", list(trial.Closed(ints))), field("a", list(trial.Closed(one))), semver.MajorChange, "a"},
		// Levels, and parts that are not to be looked into.
		{field("a", field("b", field("c d", ints))), field("a", field("b", field("c d", one))), semver.MajorChange, `a.b."c d"`}, {field("a", union(field("b", ints), one)), field("a", union(field("b", one), one)), semver.MajorChange, "a.b"}, {field("a", union(field("b", ints), one)), field("a", union(field("b", one), two)), semver.MajorChange, "a"},
		{field("a", record(optional("b", ints, bottom))), field("a", field("b", one)), semver.MajorChange, "a.b"}, {record(open(present("a", record(open(present("b", ints)))))), record(open(present("a", record(open(present("b", ints), required("c", top)))))), semver.MajorChange, "a.c"},
		// A new required label whose values lose something, too: the path of the label is the first one, and occurs once.
		{record(optional("a", record(open(present("b", ints))), bottom)), field("a", record(open(present("b", one)))), semver.MajorChange, "a a.b"}, {record(optional("a", record(open(present("b", ints))), bottom)), field("a", ints), semver.MajorChange, "a"},
		// The empty label, which no step reaches.
		{field("", ints), field("", one), semver.MajorChange, "."}, {record(shut(present("", ints), present("a", ints))), record(shut(present("", one), present("a", one))), semver.MajorChange, ". a"}, {field("", field("a", ints)), field("", field("a", one)), semver.MajorChange, "."},
		{field("a", field("", ints)), field("a", field("", one)), semver.MajorChange, "a"}, {record(optional("", ints, bottom)), field("", ints), semver.MajorChange, "."}, {field("a", record(shut(present("", field("b", ints)), present("b", ints)))), field("a", record(shut(present("", field("b", one)), present("b", one)))), semver.MajorChange, "a a.b"},
		{field("", record(shut(present("a", ints), present("b", ints)))), field("", record(shut(present("a", one), present("b", one)))), semver.MajorChange, "."},
		// Classes: the least label that both have in common.
		{record(trial.Fields(plain(ints))), record(trial.Fields(plain(one))), semver.MajorChange, "."}, {record(trial.Fields(plain(ints), present("", bool))), record(trial.Fields(plain(one), present("", bool))), semver.MajorChange, `"\x00"`}, {record(trial.Fields(plain(ints), present("", bool))), record(trial.Fields(plain(ints), present("", bool), present("\x00", one))), semver.MajorChange, `"\x00"`},
		{record(optional("x", ints, top)), record(optional("x", one, top)), semver.MajorChange, "x"}, {record(optional("x", ints, top)), record(optional("y", ints, top)), semver.MajorChange, "y"}, {record(optional("x", ints, top)), record(optional("x", ints, one)), semver.MajorChange, "."}, {record(optional("", ints, top)), record(optional("", ints, one)), semver.MajorChange, `"\x00"`},
		{record(optional("x", ints, bottom)), record(shut()), semver.MajorChange, "x"}, {record(shut()), record(optional("x", ints, bottom)), semver.MinorChange, ""}, {record(optional("x", ints, bottom)), record(optional("y", ints, bottom)), semver.MajorChange, "x"}, {record(open(present("", one))), record(shut(present("", one))), semver.MajorChange, `"\x00"`},
		{record(optional("x", ints, bottom)), record(trial.Fields(plain(one))), semver.MajorChange, "x"}, {record(trial.Fields(plain(ints))), record(optional("x", one, ints)), semver.MajorChange, "x"}, {record(trial.Fields(plain(ints), present("b", bool))), record(trial.Fields(plain(one), present("a", one), present("b", bool))), semver.MajorChange, ". a"},
		{record(trial.Fields(plain(field("v", ints)), present("", bool), present("\x00", bool))), record(trial.Fields(plain(field("v", one)), present("", bool), present("\x00", bool))), semver.MajorChange, `"\x01".v`},
		// A label that the old version forbids, and the new one requires.
		{record(shut()), field("a", ints), semver.MajorChange, "a"}, {record(shut(present("b", ints))), record(shut(present("a", ints), present("b", ints))), semver.MajorChange, "a"},
		// Many labels, in order.
		{record(open(present("B", ints), present("_h", ints), present("a", ints), present("b", ints))), record(open(present("#d", top), present("B", one), present("_h", one), present("a", one), required("aa", top), present("b", one))), semver.MajorChange, "#d B _h a aa b"},
	} {
		n, l := check(t, made(c.old), made(c.new))
		if n != c.change || written(l) != c.paths {
			t.Errorf("case %d, from %s to %s: %d, paths %s, want %d, %s", i, shown(c.old), shown(c.new), n, written(l), c.change, c.paths)
		}
	}
	d, found, e := compat.Example(made(record(optional("a", ints, bottom))), made(record(shut(required("a", ints))))) // DOC.md, example 8
	if !found || e != api.OK || !data.Equal(d, api.Data{Kind: api.Struct}) {
		t.Errorf("Example: %v, %v, %d", d, found, e)
	}
}

// version returns a version.
func version(major, minor, patch int) api.Version {
	return api.Version{Major: major, Minor: minor, Patch: patch}
}

// TestAllowed checks versions for each change (P51.2).
func TestAllowed(t *testing.T) {
	schemas := [3]api.Value{semver.PatchChange: ints, semver.MinorChange: numbers, semver.MajorChange: one}
	for i, c := range []struct {
		a, b    api.Version
		change  int
		allowed bool
		e       api.Errno
	}{
		{version(1, 2, 3), version(1, 2, 3), semver.PatchChange, true, api.OK}, {version(1, 2, 3), version(1, 2, 3), semver.MinorChange, false, api.OK}, {version(1, 2, 3), version(1, 2, 3), semver.MajorChange, false, api.OK}, {version(9999, 9999, 9999), version(9999, 9999, 9999), semver.PatchChange, true, api.OK}, {version(9999, 9999, 9999), version(9999, 9999, 9999), semver.MajorChange, false, api.OK},
		{version(1, 2, 3), version(1, 2, 4), semver.PatchChange, true, api.OK}, {version(1, 2, 3), version(1, 2, 4), semver.MinorChange, false, api.OK}, {version(1, 2, 3), version(1, 3, 0), semver.MinorChange, true, api.OK}, {version(1, 2, 3), version(1, 3, 0), semver.MajorChange, false, api.OK}, {version(1, 2, 3), version(2, 0, 0), semver.MajorChange, true, api.OK}, {version(1, 2, 3), version(1, 9999, 9999), semver.MajorChange, false, api.OK},
		{version(1, 2, 3), version(7, 0, 0), semver.PatchChange, true, api.OK}, {version(1, 2, 3), version(7, 0, 0), semver.MajorChange, true, api.OK}, {version(1, 2, 3), version(1, 2, 2), semver.PatchChange, false, api.OK}, {version(1, 2, 3), version(0, 9, 9), semver.PatchChange, false, api.OK}, {version(1, 2, 3), version(1, 2, 9), semver.MinorChange, false, api.OK},
		{version(0, 2, 3), version(0, 2, 4), semver.MinorChange, true, api.OK}, {version(0, 2, 3), version(0, 2, 4), semver.MajorChange, false, api.OK}, {version(0, 2, 3), version(0, 3, 0), semver.MajorChange, true, api.OK}, {version(0, 2, 3), version(0, 2, 3), semver.MinorChange, false, api.OK}, {version(0, 0, 0), version(0, 0, 1), semver.PatchChange, true, api.OK},
		{version(9999, 0, 0), version(9999, 1, 0), semver.MajorChange, false, api.ErrRange}, {version(1, 9999, 0), version(2, 0, 0), semver.MinorChange, false, api.ErrRange}, {version(1, 2, 9999), version(1, 3, 0), semver.PatchChange, false, api.ErrRange}, {version(9999, 0, 0), version(1, 0, 0), semver.MajorChange, false, api.ErrRange}, {version(1, 9999, 0), version(2, 0, 0), semver.MajorChange, true, api.OK},
		{version(1, 0, 10000), version(1, 0, 10000), semver.PatchChange, false, api.ErrKind}, {version(-1, 0, 0), version(1, 0, 0), semver.PatchChange, false, api.ErrKind}, {version(1, 0, 0), version(1, -1, 0), semver.PatchChange, false, api.ErrKind}, {version(1, 0, 0), version(1<<62, 0, 0), semver.MajorChange, false, api.ErrKind},
	} {
		if ok, e := compat.Allowed(c.a, c.b, ints, schemas[c.change]); ok != c.allowed || e != c.e {
			t.Errorf("case %d, from %s to %s after change %d: %v, %d", i, semver.Text(c.a), semver.Text(c.b), c.change, ok, e)
		}
	}
	// The errors in their order.
	wrong := list(trial.Closed(bottom))
	for i, c := range []struct {
		a, b     api.Version
		old, new api.Value
	}{{version(-1, 0, 0), version(1, 0, 0), ints, ints}, {version(1, 0, 0), version(1, 0, 0), wrong, ints}, {version(1, 0, 0), version(1, 0, 0), ints, wrong}, {version(9999, 9999, 9999), version(1, 0, 0), ints, wrong}, {version(0, 0, 10000), version(1, 0, 0), wrong, wrong}} {
		if ok, e := compat.Allowed(c.a, c.b, c.old, c.new); ok || e != api.ErrKind {
			t.Errorf("error %d: %v, %d", i, ok, e)
		}
	}
}

// randomVersion returns a random version; few are not valid.
func randomVersion(x *trial.Random) api.Version {
	n := func() int { return trial.Pick(x, 0, 0, 1, 1, 2, 3, 9998, 9999) }
	if x.Below(40) == 0 {
		return version(n(), trial.Pick(x, -1, 10000), n())
	}
	return version(n(), n(), n())
}

// allowed is Allowed by its definition.
func allowed(t *testing.T, a, b api.Version, old, new api.Value) (bool, api.Errno) {
	t.Helper()
	if !semver.Valid(a) || !semver.Valid(b) {
		return false, api.ErrKind
	}
	n := change(t, old, new)
	if a == b {
		return n == semver.PatchChange, api.OK
	}
	next, e := semver.Next(a, n)
	return e == api.OK && semver.Compare(next, b) <= 0, e
}

// TestHistory compares Allowed and History with their definitions, and checks that the next version is allowed (P51.2, P51.4, P51.5).
func TestHistory(t *testing.T) {
	x := trial.Random(514)
	values := []api.Value{ints, numbers, one, two, union(one, two), record(open()), record(shut(present("a", ints))), record(shut(required("a", ints)))}
	count := map[api.Errno]int{}
	wrong := 0
	for range 3000 {
		var l []compat.Entry
		for range x.Below(6) {
			entry := compat.Entry{Version: randomVersion(&x), Val: marked(trial.Pick(&x, values...), trial.Pick(&x, values...))}
			if n := len(l); n > 0 && x.Below(2) == 0 {
				last := l[n-1]
				entry.Version, _ = semver.Next(last.Version, x.Below(3))
				entry.Val.V = trial.Pick(&x, last.Val.V, entry.Val.V)
			}
			l = append(l, entry)
		}
		var want []int
		f := api.OK
		if slices.ContainsFunc(l, func(a compat.Entry) bool { return !semver.Valid(a.Version) }) {
			f = api.ErrKind
		}
		for i := 1; i < len(l) && f == api.OK; i++ {
			a, b := l[i-1], l[i]
			ok, e := allowed(t, a.Version, b.Version, a.Val.V, b.Val.V)
			if got, g := compat.Allowed(a.Version, b.Version, a.Val.V, b.Val.V); got != ok || g != e {
				t.Fatalf("Allowed(%s, %s, %s, %s): %v, %d", semver.Text(a.Version), semver.Text(b.Version), shown(a.Val.V), shown(b.Val.V), got, g)
			}
			switch {
			case e != api.OK:
				want, f = nil, e
			case !ok:
				want = append(want, i)
			}
		}
		got, e := compat.History(l)
		if !slices.Equal(got, want) || e != f {
			t.Fatalf("History: %v, %d, want %v, %d", got, e, want, f)
		}
		count[e]++
		wrong += len(got)
		// The next version is allowed.
		a, old, new := randomVersion(&x), trial.Pick(&x, values...), trial.Pick(&x, values...)
		next, e := semver.Next(a, change(t, old, new))
		if ok, f := compat.Allowed(a, next, old, new); e == api.OK && (!ok || f != api.OK) {
			t.Fatalf("the next version after %s, %s, is not allowed: %d", semver.Text(a), semver.Text(next), f)
		}
	}
	if count[api.OK] < 1000 || count[api.ErrKind] < 100 || count[api.ErrRange] < 60 || wrong < 500 {
		t.Errorf("errors %v, %d indices", count, wrong)
	}
}

// TestHistories checks History for some entries (P51.4).
func TestHistories(t *testing.T) {
	entry := func(v api.Version, s api.Value) compat.Entry { return compat.Entry{Version: v, Val: plain(s)} }
	wrong := list(trial.Closed(bottom))
	good := entry(version(1, 0, 0), ints)
	for i, c := range []struct {
		l    []compat.Entry
		want []int
		e    api.Errno
	}{
		{nil, nil, api.OK}, {[]compat.Entry{good}, nil, api.OK}, {[]compat.Entry{good, good, good}, nil, api.OK}, {[]compat.Entry{good, entry(version(1, 1, 0), numbers), entry(version(2, 0, 0), one), entry(version(2, 0, 1), one)}, nil, api.OK},
		{[]compat.Entry{good, entry(version(1, 0, 1), numbers), entry(version(1, 1, 0), one), entry(version(1, 1, 1), one), entry(version(1, 1, 1), two)}, []int{1, 2, 4}, api.OK},
		{[]compat.Entry{entry(version(1, 0, 0), wrong)}, nil, api.ErrKind}, {[]compat.Entry{entry(version(0, -1, 0), one)}, nil, api.ErrKind}, {[]compat.Entry{good, entry(version(1, 0, 0), wrong)}, nil, api.ErrKind},
		// What is not valid comes before the errors of versions.
		{[]compat.Entry{entry(version(1, 0, 9999), ints), entry(version(2, 0, 0), ints), entry(version(10000, 0, 0), ints)}, nil, api.ErrKind}, {[]compat.Entry{entry(version(1, 0, 9999), ints), entry(version(2, 0, 0), ints), entry(version(3, 0, 0), wrong)}, nil, api.ErrKind},
		{[]compat.Entry{entry(version(1, 0, 9999), ints), entry(version(2, 0, 0), ints)}, nil, api.ErrRange}, {[]compat.Entry{good, entry(version(1, 0, 9999), one), entry(version(2, 0, 0), one)}, nil, api.ErrRange}, {[]compat.Entry{good, entry(version(1, 0, 9999), ints)}, nil, api.OK},
		// Defaults do not matter, valid or not.
		{[]compat.Entry{{Version: version(1, 0, 0), Val: marked(ints, wrong)}, {Version: version(1, 0, 0), Val: marked(ints, numbers)}, {Version: version(1, 0, 0), Val: marked(ints, one)}}, nil, api.OK},
	} {
		if got, e := compat.History(c.l); !slices.Equal(got, c.want) || e != c.e {
			t.Errorf("case %d: %v, %d", i, got, e)
		}
	}
}

// TestWrong checks values that are not valid (P51.1 to P51.4).
func TestWrong(t *testing.T) {
	endless := record(open(present("a", one)))
	endless.Structs[0].Fields[0].Val.V = endless
	v := version(1, 0, 0)
	for i, w := range append(trial.WrongValues(), endless) {
		if refine.Good(w) {
			t.Fatalf("%d is valid", i)
		}
		for _, p := range [][2]api.Value{{w, ints}, {ints, w}, {w, w}, {bottom, w}, {w, top}} {
			n, e := compat.Change(p[0], p[1])
			l, f := compat.Breaking(p[0], p[1])
			d, found, g := compat.Example(p[0], p[1])
			ok, h := compat.Allowed(v, v, p[0], p[1])
			wrong, k := compat.History([]compat.Entry{{Version: v, Val: api.Val{V: p[0]}}, {Version: v, Val: api.Val{V: p[1]}}})
			if e != api.ErrKind || f != api.ErrKind || g != api.ErrKind || h != api.ErrKind || k != api.ErrKind {
				t.Errorf("wrong value %d: %d, %d, %d, %d, %d", i, e, f, g, h, k)
			}
			if n != 0 || len(l) > 0 || d.Kind != 0 || found || ok || len(wrong) > 0 {
				t.Errorf("wrong value %d: %d, %s, %v, %v, %v", i, n, written(l), found, ok, wrong)
			}
		}
	}
	if n, e := compat.Change(api.Value{Scalars: scalar.All()}, api.Value{Scalars: scalar.All()}); n != semver.PatchChange || e != api.OK {
		t.Errorf("all scalars: %d, %d", n, e)
	}
}
