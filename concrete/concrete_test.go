package concrete_test

import (
	"slices"
	"strings"
	"testing"

	"configlang/api"
	"configlang/concrete"
	"configlang/data"
	"configlang/disjoin"
	"configlang/instance"
	"configlang/parts"
	"configlang/refine"
	"configlang/scalar"
	"configlang/steps"
	"configlang/trial"
	"configlang/unify"
	"configlang/value"
)

// Values and data of the tests below.
var (
	one     = trial.Number(1)
	two     = trial.Number(2)
	ints    = trial.Kind("int")
	top     = value.Top().V
	bottom  = api.Value{}
	list    = trial.List
	record  = trial.Record
	closed  = trial.Closed
	longer  = trial.Longer
	open    = trial.Open
	shut    = trial.Shut
	present = trial.Present
	plain   = value.Plain
	marked  = trial.Marked
	null    = api.Data{Kind: api.Null}
)

// number, text, items, of and member return data.
func number(n int64) api.Data                { return api.Data{Kind: api.Number, Num: n * api.Unit} }
func text(s string) api.Data                 { return api.Data{Kind: api.String, Str: s} }
func items(l ...api.Data) api.Data           { return api.Data{Kind: api.List, Items: l} }
func of(l ...api.Member) api.Data            { return api.Data{Kind: api.Struct, Members: l} }
func member(s string, d api.Data) api.Member { return api.Member{Label: s, Data: d} }

// written returns the text of data.
func written(d api.Data) string {
	s, _ := data.Text(d)
	return s
}

// made returns the Val of valid data, by the definition: others is the Val of all other labels.
func made(d api.Data, others api.Val) api.Val {
	var c api.ListCase
	var fields []api.Field
	for _, item := range d.Items {
		c.Items = append(c.Items, made(item, others))
	}
	for _, m := range d.Members {
		fields = append(fields, api.Field{Label: m.Label, Presence: api.Present, Val: made(m.Data, others)})
	}
	switch d.Kind {
	case api.List:
		return plain(list(c))
	case api.Struct:
		return plain(record(trial.Fields(others, fields...)))
	}
	s, _ := scalar.Of(d)
	return value.Scalar(s)
}

// TestOf compares Of and Loose with their definitions (P19.1), and checks that d is the data of both (P19.4).
func TestOf(t *testing.T) {
	x := trial.Random(191)
	kinds := map[int]int{}
	for range 3000 {
		d := trial.Data(&x, 1+x.Below(4))
		before, _ := data.Make(d)
		v, e := concrete.Of(d)
		w, f := concrete.Loose(d)
		if e != api.OK || f != api.OK || !value.Equal(v, made(d, value.Bottom())) || !value.Equal(w, made(d, value.Top())) {
			t.Fatalf("Of(%s): %s, %d; Loose: %s, %d", written(d), trial.Show(v), e, trial.Show(w), f)
		}
		if !refine.Valid(v) || !refine.Valid(w) || !refine.Leq(v, w) || trial.Shares(v, w) || !data.Equal(d, before) {
			t.Fatalf("Of(%s): %s; Loose: %s", written(d), trial.Show(v), trial.Show(w))
		}
		for _, u := range []api.Val{v, w} {
			if got, e := concrete.Data(u, true); e != api.OK || !data.Equal(got, d) || !concrete.Is(u) || len(concrete.Problems(u, false)) > 0 {
				t.Fatalf("Data(%s): %s, %d", trial.Show(u), written(got), e)
			}
		}
		kinds[d.Kind]++
	}
	for kind := api.Null; kind <= api.Struct; kind++ {
		if kinds[kind] < 100 {
			t.Errorf("kind %d: %d times", kind, kinds[kind])
		}
	}
}

// TestInstances checks the instances of Of and Loose, and that data is an instance of a value exactly if both have something in common (P19.1, P19.4).
func TestInstances(t *testing.T) {
	x := trial.Random(192)
	yes, no, more := 0, 0, 0
	for range 3000 {
		v := trial.Valid(&x, 1+x.Below(3))
		d := trial.DataNear(&x, v.V)
		own, e := concrete.Of(d)
		loose, f := concrete.Loose(d)
		both, g := unify.Unify(plain(v.V), own)
		if e != api.OK || f != api.OK || g != api.OK {
			t.Fatalf("%s: %d, %d, %d", written(d), e, f, g)
		}
		has := instance.Has(v.V, d)
		if has == value.IsBottom(both.V) {
			t.Fatalf("%s in %s: %v, but both are %s", written(d), trial.Show(v), has, trial.Show(both))
		}
		if has {
			yes++
		} else {
			no++
		}
		for range 4 {
			o := trial.DataNear(&x, loose.V)
			if instance.Has(own.V, o) != data.Equal(o, d) || instance.Has(loose.V, o) != within(d, o) {
				t.Fatalf("%s: %s", written(d), written(o))
			}
			if within(d, o) && !data.Equal(d, o) {
				more++
			}
		}
	}
	if yes < 800 || no < 800 || more < 400 {
		t.Errorf("%d instances, %d others, %d with more members", yes, no, more)
	}
}

// within reports whether e is d, but for more members of its structs.
func within(d, e api.Data) bool {
	if d.Kind != e.Kind || d.Kind < api.List || len(d.Items) != len(e.Items) {
		return data.Equal(d, e)
	}
	for i := range d.Items {
		if !within(d.Items[i], e.Items[i]) {
			return false
		}
	}
	for _, m := range d.Members {
		if !slices.ContainsFunc(e.Members, func(n api.Member) bool { return n.Label == m.Label && within(m.Data, n.Data) }) {
			return false
		}
	}
	return true
}

// nested returns data of n more levels around d.
func nested(d api.Data, n int, structs bool) api.Data {
	for range n {
		if structs {
			d = of(member("a", d), member("b", null))
		} else {
			d = items(null, d)
		}
	}
	return d
}

// TestWrongData checks data that is not valid, or too deep (P19.1).
func TestWrongData(t *testing.T) {
	loop := items(null)
	loop.Items[0] = loop
	for i, c := range []struct {
		d    api.Data
		want api.Errno
	}{
		{api.Data{}, api.ErrKind}, {api.Data{Kind: 7}, api.ErrKind}, {api.Data{Kind: api.Null, Num: 1}, api.ErrKind}, {api.Data{Kind: api.List, Members: []api.Member{{}}}, api.ErrKind},
		{api.Data{Kind: api.Bool, Num: 2}, api.ErrRange}, {api.Data{Kind: api.Number, Num: api.MaxUnits + 1}, api.ErrRange}, {of(member("b", null), member("a", null)), api.ErrTwice}, {of(member("a", null), member("a", null)), api.ErrTwice},
		{items(null, of(member("a", api.Data{}))), api.ErrKind}, {loop, api.ErrDepth},
		{nested(null, api.MaxDepth, false), api.ErrDepth}, {nested(null, api.MaxDepth, true), api.ErrDepth}, {nested(null, api.MaxDepth-1, false), api.OK}, {nested(null, api.MaxDepth-1, true), api.OK},
		{nested(items(), api.MaxDepth-1, false), api.OK}, {nested(items(), api.MaxDepth-1, true), api.OK}, {nested(of(), api.MaxDepth-1, false), api.ErrDepth}, {nested(of(), api.MaxDepth-1, true), api.ErrDepth},
		{nested(of(), api.MaxDepth-2, true), api.OK}, {nested(of(member("", null)), api.MaxDepth-2, true), api.OK}, {nested(of(), api.MaxDepth, true), api.ErrDepth},
	} {
		v, e := concrete.Of(c.d)
		w, f := concrete.Loose(c.d)
		if e != c.want || f != c.want {
			t.Errorf("case %d: Of %d, Loose %d, want %d", i, e, f, c.want)
			continue
		}
		if e != api.OK {
			if !parts.SameVal(v, api.Val{}) || !parts.SameVal(w, api.Val{}) {
				t.Errorf("case %d: a result with an error", i)
			}
			continue
		}
		if value.Depth(v.V) > api.MaxDepth || value.Depth(v.V) == 0 || value.Depth(w.V) != value.Depth(v.V) {
			t.Errorf("case %d: %d levels", i, value.Depth(v.V))
		}
		if d, e := concrete.Data(v, true); e != api.OK || !data.Equal(d, c.d) {
			t.Errorf("case %d: Data %d", i, e)
		}
	}
}

// problems is the definition of Problems for a valid Val at a path.
func problems(path []api.Step, v api.Val, hidden bool) []concrete.Problem {
	here := func(e api.Errno) []concrete.Problem { return []concrete.Problem{{Path: path, Errno: e}} }
	r := disjoin.Resolve(v)
	switch {
	case value.IsBottom(v.V):
		return here(api.ErrBottom)
	case disjoin.Ambiguous(v), len(r.Lists) == 1 && len(r.Lists[0].Rest) > 0:
		return here(api.ErrOpen)
	}
	var l []concrete.Problem
	for _, c := range r.Structs {
		for _, f := range c.Fields {
			if !hidden && f.Label != "" && strings.Contains("_#", f.Label[:1]) {
				continue
			}
			at := append(slices.Clone(path), api.Step{Label: f.Label})
			inner := problems(at, f.Val, hidden)
			if f.Presence == api.Required {
				inner = []concrete.Problem{{Path: at, Errno: api.ErrAbsent}}
			}
			if f.Label == "" && len(inner) > 0 {
				inner = here(inner[0].Errno)
			}
			l = append(l, inner...)
		}
	}
	for _, c := range r.Lists {
		for i, item := range c.Items {
			l = append(l, problems(append(slices.Clone(path), api.Step{Index: i}), item, hidden)...)
		}
	}
	return l
}

// shown returns the data of a valid Val without problems, by the definition.
func shown(v api.Val, hidden bool) api.Data {
	r := disjoin.Resolve(v)
	if d, ok := scalar.Single(r.Scalars); ok {
		return d
	}
	d := api.Data{Kind: api.List}
	for _, c := range r.Lists {
		for _, item := range c.Items {
			d.Items = append(d.Items, shown(item, hidden))
		}
	}
	for _, c := range r.Structs {
		d.Kind = api.Struct
		for _, f := range c.Fields {
			if hidden || !strings.HasPrefix(f.Label, "_") && !strings.HasPrefix(f.Label, "#") {
				d.Members = append(d.Members, member(f.Label, shown(f.Val, hidden)))
			}
		}
	}
	return d
}

// sameProblems reports whether two lists of problems are equal.
func sameProblems(a, b []concrete.Problem) bool {
	return slices.EqualFunc(a, b, func(p, q concrete.Problem) bool { return p.Errno == q.Errno && slices.Equal(p.Path, q.Path) })
}

// almost returns a random sound Val that is often concrete, or almost.
func almost(x *trial.Random, levels int) api.Val {
	var v api.Value
	switch n := x.Below(9); {
	case n == 0:
		return trial.Val(x, 1)
	case n < 3 || levels == 1:
		v = trial.Pick(x, one, two, trial.Text("x"), trial.Kind("null"))
	case n < 5:
		var c api.ListCase
		for range x.Below(3) {
			c.Items = append(c.Items, almost(x, levels-1))
		}
		if x.Below(5) == 0 {
			c.Rest = []api.Val{almost(x, levels-1)}
		}
		v = list(c)
	default:
		var fields []api.Field
		for _, label := range append(trial.Labels(), "\xff#") {
			if x.Below(4) == 0 {
				presence := api.Present
				if x.Below(8) == 0 {
					presence = api.Required
				}
				fields = append(fields, api.Field{Label: label, Presence: presence, Val: almost(x, levels-1)})
			}
		}
		v = record(trial.Fields(trial.Pick(x, value.Top(), value.Bottom()), fields...))
	}
	switch x.Below(8) {
	case 0:
		return marked(trial.Pick(x, top, api.Value{Scalars: scalar.Or(v.Scalars, two.Scalars), Lists: v.Lists, Structs: v.Structs}), v)
	case 1:
		return marked(v, bottom)
	}
	return plain(v)
}

// TestProblems compares Problems, Data and Is with their definitions (P19.2, P19.3), and checks that data is an instance (P19.4).
func TestProblems(t *testing.T) {
	x := trial.Random(193)
	count := map[api.Errno]int{}
	several, empty, hidden := 0, 0, 0
	for range 8000 {
		v := trial.Made(almost(&x, 1+x.Below(4)))
		before := parts.CopyVal(v)
		var full []concrete.Problem
		for _, all := range []bool{true, false} {
			got, want := concrete.Problems(v, all), problems(nil, v, all)
			d, e := concrete.Data(v, all)
			if !sameProblems(got, want) {
				t.Fatalf("Problems(%s, %v): %v, want %v", trial.Show(v), all, got, want)
			}
			if !slices.IsSortedFunc(got, func(p, q concrete.Problem) int { return steps.Compare(p.Path, q.Path) }) || shares(got) {
				t.Fatalf("Problems(%s, %v): %v", trial.Show(v), all, got)
			}
			switch {
			case len(want) > 0 && (e != want[0].Errno || d.Kind != 0 || len(d.Items)+len(d.Members) > 0), len(want) == 0 && (e != api.OK || !data.Equal(d, shown(v, all))):
				t.Fatalf("Data(%s, %v): %s, %d", trial.Show(v), all, written(d), e)
			case e == api.OK && all && !instance.Has(v.V, d):
				t.Fatalf("Data(%s): %s", trial.Show(v), written(d))
			}
			if all {
				full = got
			} else if !sameProblems(full, got) {
				hidden++
			}
			count[e]++
			if len(got) > 2 {
				several++
			}
			if slices.ContainsFunc(got, func(p concrete.Problem) bool { return len(p.Path) == 0 }) && len(got) > 1 {
				empty++
			}
		}
		if concrete.Is(v) != (len(full) == 0) || !parts.SameVal(v, before) {
			t.Fatalf("Is(%s)", trial.Show(v))
		}
	}
	for _, e := range []api.Errno{api.OK, api.ErrOpen, api.ErrAbsent, api.ErrBottom} {
		if count[e] < 500 {
			t.Errorf("error %d: %d times", e, count[e])
		}
	}
	if several < 300 || empty < 100 || hidden < 300 {
		t.Errorf("%d with several problems, %d with those of the empty label, %d with hidden ones", several, empty, hidden)
	}
}

// shares reports whether two paths share memory.
func shares(l []concrete.Problem) bool {
	m := trial.Memory{}
	for _, p := range l {
		trial.Note(m, p.Path)
	}
	return m.Twice()
}

// TestSome checks the problems of some Vals (P19.2, P19.3): their paths and errors, with hidden fields.
func TestSome(t *testing.T) {
	absent := func(label string) api.Value { return record(open(trial.Required(label, one))) }
	either := trial.Union(one, two)
	for i, c := range []struct {
		v    api.Val
		want string
	}{
		{marked(either, one), ""}, {plain(record(open(present("a", ints)))), "a open"}, {plain(absent("_x")), "_x absent"}, // examples
		{plain(one), ""}, {plain(ints), ". open"}, {value.Top(), ". open"}, {value.Bottom(), ". bottom"}, {plain(trial.Kind("null")), ""}, {plain(trial.Kind("bool")), ". open"}, {plain(trial.Text("")), ""},
		{marked(top, one), ""}, {marked(ints, bottom), ". open"}, {marked(one, bottom), ""}, {marked(top, list(closed(one))), ""}, {marked(top, absent("a")), "a absent"},
		{plain(list(closed())), ""}, {plain(list(closed(one, ints, two, top))), "[1] open, [3] open"}, {plain(list(longer(one, ints))), ". open"}, {plain(list(closed(list(longer(one))))), "[0] open"}, {plain(trial.Union(list(closed(one)), list(closed(two)))), ". open"},
		{plain(record(open())), ""}, {plain(record(shut())), ""}, {plain(record(trial.Fields(plain(one)))), ""}, {plain(trial.Union(record(open(present("a", one))), record(open(present("a", two))))), ". open"},
		{plain(trial.Union(one, list(closed()))), ". open"}, {plain(trial.Union(one, record(open()))), ". open"}, {plain(trial.Union(list(closed()), record(open()))), ". open"}, {plain(trial.Union(ints, record(open()))), ". open"},
		{plain(record(open(present("a", one), trial.Required("b", one), present("c", ints), trial.Required("d", ints)))), "b absent, c open, d absent"},
		{plain(record(open(present("a", absent("x y")), present("b", list(closed(one, absent("c"))))))), `a."x y" absent, b[1].c absent`},
		// The empty label.
		{plain(absent("")), ". absent"}, {plain(record(open(present("", ints), present("a", ints)))), ". open, a open"}, {plain(record(open(present("", record(open(trial.Required("a", one), present("b", ints))))))), ". absent"},
		{plain(record(open(present("", one), trial.Required("a", one)))), "a absent"}, {plain(record(open(present("a", record(open(present("", list(closed(ints, top))), present("b", top))))))), "a open, a.b open"}, {plain(record(open(present("", record(open(trial.Required("", one))))))), ". absent"},
		// Hidden labels.
		{plain(record(open(present("#d", ints), present("_", ints), present("a_", ints)))), `#d open, "_" open, a_ open`}, {plain(record(open(present("a", record(open(present("_h", ints))))))), "a._h open"},
	} {
		var l []string
		for _, p := range concrete.Problems(c.v, true) {
			l = append(l, steps.Text(p.Path)+" "+map[api.Errno]string{api.ErrOpen: "open", api.ErrAbsent: "absent", api.ErrBottom: "bottom"}[p.Errno])
		}
		if got := strings.Join(l, ", "); got != c.want || concrete.Is(c.v) != (c.want == "") {
			t.Errorf("case %d: %s, want %s", i, got, c.want)
		}
	}
}

// TestHidden checks which fields are left out (P19.2).
func TestHidden(t *testing.T) {
	v := plain(record(open(present("#d", one), present("_h", one), present("a", record(shut(present("#", two), present("_", two), present("b", two), present("b_#", two)))), present("\xff_", one))))
	for hidden, want := range map[bool]api.Data{
		true:  of(member("#d", number(1)), member("_h", number(1)), member("a", of(member("#", number(2)), member("_", number(2)), member("b", number(2)), member("b_#", number(2)))), member("\xff_", number(1))),
		false: of(member("a", of(member("b", number(2)), member("b_#", number(2)))), member("\xff_", number(1))),
	} {
		if d, e := concrete.Data(v, hidden); e != api.OK || !data.Equal(d, want) {
			t.Errorf("Data, hidden %v: %s, %d, want %s", hidden, written(d), e, written(want))
		}
	}
	absent := plain(record(open(trial.Required("_x", one)))) // example 3
	if d, e := concrete.Data(absent, false); e != api.OK || !data.Equal(d, of()) || concrete.Is(absent) || len(concrete.Problems(absent, false)) > 0 {
		t.Errorf("a required hidden field: %s, %d", written(d), e)
	}
	if d, e := concrete.Data(absent, true); e != api.ErrAbsent || d.Kind != 0 {
		t.Errorf("a required hidden field: %s, %d", written(d), e)
	}
	if d, e := concrete.Data(plain(list(closed(absent.V))), false); e != api.OK || !data.Equal(d, items(of())) {
		t.Errorf("a required hidden field in a list: %s, %d", written(d), e)
	}
	if d, e := concrete.Data(marked(trial.Union(one, two), one), false); e != api.OK || !data.Equal(d, number(1)) { // example 1
		t.Errorf("a default: %s, %d", written(d), e)
	}
	if d, e := concrete.Data(plain(record(open(present("", trial.Text("x"))))), false); e != api.OK || !data.Equal(d, of(member("", text("x")))) {
		t.Errorf("the empty label: %s, %d", written(d), e)
	}
}

// TestWrong checks Vals that are not valid (P19.2, P19.3).
func TestWrong(t *testing.T) {
	endless := record(open(present("a", one)))
	endless.Structs[0].Fields[0].Val.V = endless
	for i, v := range append(trial.Wrong(), plain(endless), marked(top, endless)) {
		for _, hidden := range []bool{false, true} {
			d, e := concrete.Data(v, hidden)
			l := concrete.Problems(v, hidden)
			if e != api.ErrKind || d.Kind != 0 || len(l) != 1 || len(l[0].Path) > 0 || l[0].Errno != api.ErrKind || concrete.Is(v) {
				t.Errorf("wrong Val %d: %d, %v", i, e, l)
			}
		}
	}
}

// TestLarge checks many members and items, and the greatest depth (P19.1, P19.2).
func TestLarge(t *testing.T) {
	const n = 3000
	d := of()
	for i := range n {
		d.Members = append(d.Members, member(string([]byte{byte('a' + i/26/26), byte('a' + i/26%26), byte('a' + i%26)}), items(number(int64(i)))))
	}
	for _, compose := range []func(api.Data) (api.Val, api.Errno){concrete.Of, concrete.Loose} {
		v, e := compose(d)
		if e != api.OK || len(v.V.Structs) != 1 || len(v.V.Structs[0].Fields) != n {
			t.Fatalf("many members: %d", e)
		}
		if got, e := concrete.Data(v, true); e != api.OK || !data.Equal(got, d) {
			t.Errorf("many members: %d", e)
		}
	}
	v := plain(list(longer(one)))
	var want []api.Step
	for range api.MaxDepth - 2 {
		v = marked(list(closed(one, v.V)), bottom)
		want = append(want, api.Step{Index: 1})
	}
	if l := concrete.Problems(v, false); len(l) != 1 || !slices.Equal(l[0].Path, want) || l[0].Errno != api.ErrOpen {
		t.Errorf("the greatest depth: %v", l)
	}
}
