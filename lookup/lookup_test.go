package lookup_test

import (
	"slices"
	"strings"
	"testing"

	"configlang/api"
	"configlang/disjoin"
	"configlang/lookup"
	"configlang/parts"
	"configlang/refine"
	"configlang/scalar"
	"configlang/steps"
	"configlang/trial"
	"configlang/unify"
	"configlang/value"
)

// Values of the tests below.
var (
	one     = trial.Number(1)
	two     = trial.Number(2)
	ints    = trial.Kind("int")
	top     = value.Top().V
	bottom  = api.Value{}
	list    = trial.List
	record  = trial.Record
	closed  = trial.Closed
	longer  = trial.Longer
	open    = trial.Open
	shut    = trial.Shut
	present = trial.Present
	plain   = value.Plain
	marked  = trial.Marked
)

// alternatives returns the number of alternatives of a value, where its scalars count as one.
func alternatives(v api.Value) int {
	n := len(v.Lists) + len(v.Structs)
	if !scalar.Empty(v.Scalars) {
		n++
	}
	return n
}

// failure is the error of Select and Index for valid Vals up to ErrKind, by the definition; cases is the number of cases of the kind.
func failure(v api.Val, cases func(api.Value) int) api.Errno {
	r := disjoin.Resolve(v)
	switch {
	case value.IsBottom(v.V):
		return api.ErrBottom
	case r.Any || alternatives(r) > 1 && cases(r) > 0:
		return api.ErrOpen
	case cases(r) == 0:
		return api.ErrKind
	}
	return api.OK
}

// structs and lists return the numbers of cases.
func structs(v api.Value) int { return len(v.Structs) }
func lists(v api.Value) int   { return len(v.Lists) }

// selected is Select by the definition.
func selected(v api.Val, label string) (api.Val, api.Errno) {
	if e := failure(v, structs); e != api.OK {
		return api.Val{}, e
	}
	for _, f := range disjoin.Resolve(v).Structs[0].Fields {
		if f.Label == label {
			return f.Val, api.OK
		}
	}
	return api.Val{}, api.ErrAbsent
}

// indexed is Index by the definition.
func indexed(v api.Val, i int) (api.Val, api.Errno) {
	if e := failure(v, lists); e != api.OK {
		return api.Val{}, e
	}
	c := disjoin.Resolve(v).Lists[0]
	switch {
	case i < 0:
		return api.Val{}, api.ErrRange
	case i < len(c.Items):
		return c.Items[i], api.OK
	case len(c.Rest) > 0:
		return api.Val{}, api.ErrOpen
	}
	return api.Val{}, api.ErrAbsent
}

// same reports whether a result is the wanted one.
func same(v api.Val, e api.Errno, w api.Val, f api.Errno) bool {
	return e == f && parts.SameVal(v, w)
}

// random returns a random valid Val, often with one case alone.
func random(x *trial.Random) api.Val {
	switch x.Below(4) {
	case 0:
		return trial.Valid(x, 1+x.Below(4))
	case 1:
		v := trial.Simple(x)
		return trial.Made(marked(v, trial.Lower(x, v)))
	case 2:
		c := record(trial.StructCase(x, 2))
		return trial.Made(marked(c, trial.Lower(x, c)))
	}
	c := list(trial.ListCase(x, 3))
	return trial.Made(marked(c, trial.Lower(x, c)))
}

// TestLookup compares all functions with their definitions (P16.1, P16.3), and checks that what is selected is allowed, and among the labels (P16.4).
func TestLookup(t *testing.T) {
	x := trial.Random(161)
	count := map[api.Errno]int{}
	for range 3000 {
		v := random(&x)
		before := parts.CopyVal(v)
		labels := lookup.Labels(v)
		for _, label := range append(trial.Labels(), "x", "ab\x00") {
			got, e := lookup.Select(v, label)
			want, f := selected(v, label)
			if !same(got, e, want, f) || trial.Shares(v, got) {
				t.Fatalf("Select(%s, %q): %s, %d, want %s, %d", trial.Show(v), label, trial.Show(got), e, trial.Show(want), f)
			}
			count[e]++
			allowed := v.V.Any || slices.ContainsFunc(v.V.Structs, func(c api.StructCase) bool {
				u, _ := value.View(c, label)
				return !value.IsBottom(u.V)
			})
			if lookup.Allows(v, label) != allowed || e == api.OK && (!allowed || !slices.Contains(labels, label)) {
				t.Fatalf("Allows(%s, %q): %v", trial.Show(v), label, !allowed)
			}
		}
		var fields []string
		if failure(v, structs) == api.OK {
			for _, f := range disjoin.Resolve(v).Structs[0].Fields {
				fields = append(fields, f.Label)
			}
		}
		if !slices.Equal(labels, fields) {
			t.Fatalf("Labels(%s): %q, want %q", trial.Show(v), labels, fields)
		}
		for i := -1; i < 6; i++ {
			got, e := lookup.Index(v, i)
			want, f := indexed(v, i)
			if !same(got, e, want, f) || trial.Shares(v, got) {
				t.Fatalf("Index(%s, %d): %s, %d, want %s, %d", trial.Show(v), i, trial.Show(got), e, trial.Show(want), f)
			}
			count[e]++
		}
		checkLength(t, v)
		if !parts.SameVal(v, before) {
			t.Fatalf("%s is changed", trial.Show(before))
		}
	}
	for _, e := range []api.Errno{api.OK, api.ErrKind, api.ErrBottom, api.ErrOpen, api.ErrAbsent, api.ErrRange} {
		if count[e] < 500 {
			t.Errorf("error %d: %d times", e, count[e])
		}
	}
}

// checkLength compares Length with the definition.
func checkLength(t *testing.T, v api.Val) {
	t.Helper()
	n, rest, e := lookup.Length(v)
	if f := failure(v, lists); e != f {
		t.Fatalf("Length(%s): %d, want %d", trial.Show(v), e, f)
	}
	items, more := 0, false
	if e == api.OK {
		c := disjoin.Resolve(v).Lists[0]
		items, more = len(c.Items), len(c.Rest) > 0
	}
	if n != items || rest != more {
		t.Fatalf("Length(%s): %d, %v", trial.Show(v), n, rest)
	}
}

// TestErrors checks the results for some Vals (P16.1, P16.3): the error of Select of a, that of Index of 0, and the labels.
func TestErrors(t *testing.T) {
	a1, a2 := record(shut(present("a", one))), record(shut(present("a", two)))
	l1 := list(closed(one))
	both := func(l ...api.Value) api.Value {
		all := bottom
		for _, v := range l {
			all = trial.Union(all, v)
		}
		return all
	}
	for i, c := range []struct {
		v             api.Val
		field, item   api.Errno
		labels        string
		fieldV, itemV api.Value
	}{
		{plain(a1), api.OK, api.ErrKind, "a", one, bottom}, // example 1
		{plain(record(open(trial.Required("a", one)))), api.OK, api.ErrKind, "a", one, bottom},
		{plain(record(open(present("", one), present("a", two), present("b", ints)))), api.OK, api.ErrKind, " a b", two, bottom},
		{plain(record(open(present("b", one)))), api.ErrAbsent, api.ErrKind, "b", bottom, bottom}, {plain(record(open())), api.ErrAbsent, api.ErrKind, "", bottom, bottom},
		{plain(l1), api.ErrKind, api.OK, "", bottom, one}, {plain(list(closed())), api.ErrKind, api.ErrAbsent, "", bottom, bottom}, {plain(list(longer(one))), api.ErrKind, api.ErrOpen, "", bottom, bottom}, {plain(list(longer(two, one))), api.ErrKind, api.OK, "", bottom, one},
		{value.Bottom(), api.ErrBottom, api.ErrBottom, "", bottom, bottom}, {value.Top(), api.ErrOpen, api.ErrOpen, "", bottom, bottom}, {marked(top, bottom), api.ErrOpen, api.ErrOpen, "", bottom, bottom},
		{plain(one), api.ErrKind, api.ErrKind, "", bottom, bottom}, {plain(ints), api.ErrKind, api.ErrKind, "", bottom, bottom},
		{plain(both(one, a1)), api.ErrOpen, api.ErrKind, "", bottom, bottom}, {plain(both(one, two)), api.ErrKind, api.ErrKind, "", bottom, bottom}, // example 3
		{plain(both(one, l1)), api.ErrKind, api.ErrOpen, "", bottom, bottom}, {plain(both(l1, a1)), api.ErrOpen, api.ErrOpen, "", bottom, bottom}, {plain(both(one, l1, a1)), api.ErrOpen, api.ErrOpen, "", bottom, bottom},
		{plain(both(a1, a2)), api.ErrOpen, api.ErrKind, "", bottom, bottom}, {plain(both(l1, list(closed(two)))), api.ErrKind, api.ErrOpen, "", bottom, bottom}, {plain(both(l1, list(closed(two)), one)), api.ErrKind, api.ErrOpen, "", bottom, bottom},
		// Defaults.
		{marked(both(a1, a2), a1), api.OK, api.ErrKind, "a", one, bottom}, {marked(both(a1, a2), bottom), api.ErrOpen, api.ErrKind, "", bottom, bottom}, {marked(a1, bottom), api.OK, api.ErrKind, "a", one, bottom},
		{marked(top, a2), api.OK, api.ErrKind, "a", two, bottom}, {marked(top, l1), api.ErrKind, api.OK, "", bottom, one}, {marked(both(a1, one), one), api.ErrKind, api.ErrKind, "", bottom, bottom}, {marked(top, ints), api.ErrKind, api.ErrKind, "", bottom, bottom},
		{marked(record(open()), a1), api.OK, api.ErrKind, "a", one, bottom}, {marked(top, both(a1, a2)), api.ErrOpen, api.ErrKind, "", bottom, bottom},
	} {
		v, e := lookup.Select(c.v, "a")
		w, f := lookup.Index(c.v, 0)
		if !same(v, e, plain(c.fieldV), c.field) || !same(w, f, plain(c.itemV), c.item) || strings.Join(lookup.Labels(c.v), " ") != c.labels {
			t.Errorf("case %d: Select %s, %d; Index %s, %d; Labels %q", i, trial.Show(v), e, trial.Show(w), f, lookup.Labels(c.v))
		}
		if _, _, f := lookup.Length(c.v); f != c.item && c.item != api.ErrAbsent && len(c.v.V.Lists) != 1 {
			t.Errorf("case %d: Length %d", i, f)
		}
	}
	for i, want := range map[int]api.Errno{-1: api.ErrRange, -1 << 63: api.ErrRange, 0: api.OK, 1: api.OK, 2: api.ErrOpen, 1<<63 - 1: api.ErrOpen} {
		if _, e := lookup.Index(plain(list(longer(two, one, one))), i); e != want {
			t.Errorf("Index %d with a rest: %d", i, e)
		}
		if want == api.ErrOpen {
			want = api.ErrAbsent
		}
		if _, e := lookup.Index(plain(list(closed(one, one))), i); e != want {
			t.Errorf("Index %d without a rest: %d", i, e)
		}
	}
	if v, e := lookup.Select(plain(record(open(present("", one)))), ""); !same(v, e, plain(one), api.OK) {
		t.Errorf("Select of the empty label: %d", e)
	}
}

// TestAllows checks labels that are allowed or not, and that the default does not matter (P16.3).
func TestAllows(t *testing.T) {
	for i, c := range []struct {
		v    api.Value
		a, b bool
	}{
		{top, true, true}, {bottom, false, false}, {one, false, false}, {list(longer(top)), false, false}, {record(open()), true, true}, {record(shut()), false, false},
		{record(shut(present("a", one))), true, false}, {record(open(present("a", one))), true, true}, {trial.Union(record(shut(present("a", one))), record(shut(present("b", one)))), true, true},
		{trial.Union(one, record(shut(trial.Required("b", one)))), false, true},
		{record(api.StructCase{Classes: []api.Class{{Set: trial.Strs("a.*"), Val: plain(one)}, {Set: trial.Strs("([^a].*)?")}}}), true, false},
	} {
		v := trial.Made(marked(c.v, bottom)).V
		for _, d := range []api.Value{v, bottom} {
			if lookup.Allows(marked(v, d), "a") != c.a || lookup.Allows(marked(v, d), "b") != c.b {
				t.Errorf("case %d", i)
			}
		}
	}
	if v := marked(top, record(shut(present("a", one)))); !lookup.Allows(v, "b") {
		t.Error("the default matters")
	}
}

// TestKinds compares Kinds with the definition (P16.3).
func TestKinds(t *testing.T) {
	x := trial.Random(162)
	whole, _ := scalar.Type("int")
	has := func(v api.Value, word string) bool {
		switch word {
		case "list":
			return v.Any || len(v.Lists) > 0
		case "struct":
			return v.Any || len(v.Structs) > 0
		}
		s, _ := scalar.Type(word)
		if word == "number" {
			s = scalar.Minus(s, whole)
		}
		return v.Any || !scalar.Empty(scalar.And(v.Scalars, s))
	}
	words := []string{"null", "bool", "int", "number", "string", "list", "struct"}
	count := map[string]int{}
	for range 3000 {
		v := trial.Valid(&x, 2).V
		var want []string
		for _, word := range words {
			if has(v, word) {
				want = append(want, word)
				count[word]++
			}
		}
		if got := lookup.Kinds(v); !slices.Equal(got, want) {
			t.Fatalf("Kinds(%s): %q, want %q", trial.Show(plain(v)), got, want)
		}
	}
	for _, word := range words {
		if count[word] < 200 || count[word] > 2500 {
			t.Errorf("%s: %d times", word, count[word])
		}
	}
	half := api.Value{Scalars: api.Scalars{Nums: api.Nums{Fracs: []api.Span{{Lo: 5000, Hi: 5000}}}}}
	for i, c := range []struct {
		v    api.Value
		want string
	}{
		{top, "null bool int number string list struct"}, {ints, "int"}, // example 2
		{bottom, ""}, {trial.Kind("number"), "int number"}, {half, "number"}, {trial.Kind("bool"), "bool"}, {api.Value{Scalars: api.Scalars{True: true}}, "bool"}, {api.Value{Scalars: api.Scalars{False: true}}, "bool"},
		{trial.Kind("null"), "null"}, {trial.Text(""), "string"}, {list(closed()), "list"}, {record(shut()), "struct"}, {api.Value{Scalars: scalar.All()}, "null bool int number string"},
		{api.Value{Scalars: one.Scalars, Lists: []api.ListCase{closed(), closed(one)}, Structs: []api.StructCase{shut()}}, "int list struct"},
	} {
		if got := strings.Join(lookup.Kinds(c.v), " "); got != c.want {
			t.Errorf("case %d: %s", i, got)
		}
	}
}

// single returns a random sound value of a number of levels whose parts have one case each.
func single(x *trial.Random, levels int) api.Value {
	if levels == 1 {
		return trial.Pick(x, top, ints, one)
	}
	inner := func() api.Val {
		v := single(x, levels-1)
		return marked(v, trial.Pick(x, v, bottom))
	}
	if x.Below(3) == 0 {
		c := trial.Longer(ints)
		for range 1 + x.Below(2) {
			c.Items = append(c.Items, inner())
		}
		c.Rest = c.Rest[:x.Below(2)]
		return list(c)
	}
	var fields []api.Field
	for _, label := range trial.Labels() {
		if x.Below(5) == 0 {
			fields = append(fields, api.Field{Label: label, Presence: 1 + x.Below(2), Val: inner()})
		}
	}
	return record(trial.Fields(trial.Pick(x, value.Top(), value.Bottom()), fields...))
}

// path returns random steps, most of which lead to a part of a Val.
func path(x *trial.Random, v api.Val) []api.Step {
	var l []api.Step
	for range x.Below(5) {
		var next []api.Step
		for _, label := range lookup.Labels(v) {
			next = append(next, api.Step{Label: label})
		}
		n, _, _ := lookup.Length(v)
		for i := range n {
			next = append(next, api.Step{Index: i})
		}
		if len(next) == 0 || x.Below(6) == 0 {
			next = []api.Step{{Label: "a"}, {Label: ""}, {Index: -1}, {Index: 3}, {Label: "a", Index: 1}, {Index: 1000001}, {Label: "b", Index: -1}}
		}
		s := trial.Pick(x, next...)
		l = append(l, s)
		if s.Label != "" {
			v, _ = lookup.Select(v, s.Label)
		} else {
			v, _ = lookup.Index(v, s.Index)
		}
	}
	return l
}

// TestAt compares At with steps that are taken one after the other (P16.2).
func TestAt(t *testing.T) {
	x := trial.Random(163)
	count := map[api.Errno]int{}
	long := 0
	for range 5000 {
		v := random(&x)
		if x.Below(2) == 0 {
			u := single(&x, 2+x.Below(3))
			v = trial.Made(marked(trial.Union(trial.Made(plain(u)).V, one), u))
		}
		l := path(&x, v)
		given := slices.Clone(l)
		want, f := v, api.OK
		for _, s := range l {
			switch {
			case f != api.OK:
			case !steps.Valid([]api.Step{s}):
				want, f = api.Val{}, api.ErrRange
			case s.Label != "":
				want, f = selected(want, s.Label)
			default:
				want, f = indexed(want, s.Index)
			}
		}
		got, e := lookup.At(v, l)
		if !same(got, e, want, f) || trial.Shares(v, got) || !slices.Equal(l, given) {
			t.Fatalf("At(%s, %v): %s, %d, want %s, %d", trial.Show(v), l, trial.Show(got), e, trial.Show(want), f)
		}
		count[e]++
		if e == api.OK && len(l) > 1 {
			long++
		}
	}
	for _, e := range []api.Errno{api.OK, api.ErrKind, api.ErrBottom, api.ErrOpen, api.ErrAbsent, api.ErrRange} {
		if count[e] < 50 {
			t.Errorf("error %d: %d times", e, count[e])
		}
	}
	if long < 200 {
		t.Errorf("%d long paths", long)
	}
}

// TestPaths checks At for some paths (P16.2).
func TestPaths(t *testing.T) {
	inner := record(open(present("b c", list(longer(ints, one, two)))))
	v := plain(record(open(present("a", inner), present("d", top))))
	for i, c := range []struct {
		path []api.Step
		want api.Val
		e    api.Errno
	}{
		{nil, v, api.OK}, {[]api.Step{}, v, api.OK}, {[]api.Step{{Label: "a"}}, plain(inner), api.OK}, {[]api.Step{{Label: "a"}, {Label: "b c"}, {Index: 1}}, plain(two), api.OK},
		{[]api.Step{{Label: "a"}, {Label: "b c"}, {Index: 2}}, api.Val{}, api.ErrOpen}, {[]api.Step{{Label: "b"}}, api.Val{}, api.ErrAbsent}, {[]api.Step{{Index: 0}}, api.Val{}, api.ErrKind}, {[]api.Step{{Label: "d"}, {Label: "e"}}, api.Val{}, api.ErrOpen},
		{[]api.Step{{Label: "a", Index: 1}}, api.Val{}, api.ErrRange}, {[]api.Step{{Index: -1}}, api.Val{}, api.ErrRange}, {[]api.Step{{Index: 1000001}}, api.Val{}, api.ErrRange}, {[]api.Step{{Index: 1000000}}, api.Val{}, api.ErrKind},
		{[]api.Step{{Label: "b"}, {Index: -1}}, api.Val{}, api.ErrAbsent}, {[]api.Step{{Label: "a"}, {Index: -1}}, api.Val{}, api.ErrRange}, {[]api.Step{{Label: "a"}, {Label: "b c"}, {Index: 0}, {Label: "x"}}, api.Val{}, api.ErrKind},
	} {
		if got, e := lookup.At(v, c.path); !same(got, e, c.want, c.e) {
			t.Errorf("case %d: %s, %d", i, trial.Show(got), e)
		}
	}
	if got, e := lookup.At(value.Bottom(), nil); !same(got, e, api.Val{}, api.OK) {
		t.Error("no steps from bottom")
	}
}

// TestUnify checks Select of greatest lower bounds (P16.4).
func TestUnify(t *testing.T) {
	x := trial.Random(164)
	count := 0
	for range 8000 {
		a, b := trial.Near(&x)
		if x.Below(2) == 0 {
			c := plain(record(trial.StructCase(&x, 2)))
			a, b = trial.Made(trial.LowerVal(&x, c)), trial.Made(trial.LowerVal(&x, c))
		}
		both, e := unify.Unify(a, b)
		if e != api.OK {
			t.Fatalf("Unify: %d", e)
		}
		if value.IsBottom(both.D) {
			continue
		}
		for _, label := range trial.Labels() {
			v, e := lookup.Select(a, label)
			w, f := lookup.Select(b, label)
			u, g := lookup.Select(both, label)
			if e != api.OK || f != api.OK || g != api.OK {
				continue
			}
			if want, _ := unify.Unify(v, w); !value.Equal(u, want) {
				t.Fatalf("Select %q of %s: %s, want %s", label, trial.Show(both), trial.Show(u), trial.Show(want))
			}
			count++
		}
	}
	if count < 200 {
		t.Errorf("%d fields", count)
	}
}

// TestWrong checks Vals that are not valid (P16.1 to P16.3).
func TestWrong(t *testing.T) {
	endless := record(open(present("a", one)))
	endless.Structs[0].Fields[0].Val.V = endless
	for i, v := range append(trial.Wrong(), plain(endless), marked(top, endless)) {
		if refine.Valid(v) {
			t.Fatalf("%d is valid", i)
		}
		u, e := lookup.Select(v, "a")
		w, f := lookup.Index(v, -1)
		z, g := lookup.At(v, []api.Step{{Index: -1}})
		s, h := lookup.At(v, nil)
		n, rest, k := lookup.Length(v)
		for j, c := range []struct {
			v api.Val
			e api.Errno
		}{{u, e}, {w, f}, {z, g}, {s, h}, {api.Val{}, k}} {
			if !same(c.v, c.e, api.Val{}, api.ErrKind) {
				t.Errorf("wrong Val %d, function %d: %d", i, j, c.e)
			}
		}
		if n != 0 || rest || len(lookup.Labels(v)) > 0 || lookup.Allows(v, "a") || lookup.Allows(v, "b") {
			t.Errorf("wrong Val %d", i)
		}
	}
	for i, v := range append(trial.WrongValues(), endless) {
		if len(lookup.Kinds(v)) > 0 {
			t.Errorf("wrong value %d: %q", i, lookup.Kinds(v))
		}
	}
}

// TestMany checks a struct of many fields, and the greatest depth (P16.1, P16.2).
func TestMany(t *testing.T) {
	const n = 2000
	var fields []api.Field
	for i := range n {
		fields = append(fields, present(string([]byte{byte('a' + i/26/26), byte('a' + i/26%26), byte('a' + i%26)}), trial.Number(int64(i))))
	}
	v := plain(record(open(fields...)))
	for _, i := range []int{0, 1, 1000, n - 1} {
		if got, e := lookup.Select(v, fields[i].Label); !same(got, e, plain(trial.Number(int64(i))), api.OK) {
			t.Errorf("field %d: %d", i, e)
		}
	}
	if l := lookup.Labels(v); len(l) != n || !slices.IsSorted(l) {
		t.Errorf("%d labels", len(l))
	}
	deep := plain(one)
	var path []api.Step
	for range api.MaxDepth - 1 {
		deep = marked(record(open(present("a", deep.V))), bottom)
		path = append(path, api.Step{Label: "a"})
	}
	if got, e := lookup.At(deep, path); !same(got, e, plain(one), api.OK) {
		t.Errorf("the greatest depth: %d", e)
	}
}
