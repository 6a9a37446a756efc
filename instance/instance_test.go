package instance_test

import (
	"reflect"
	"slices"
	"testing"

	"configlang/api"
	"configlang/data"
	"configlang/instance"
	"configlang/parts"
	"configlang/refine"
	"configlang/scalar"
	"configlang/steps"
	"configlang/trial"
	"configlang/unify"
	"configlang/value"
)

// Values of the tests below.
var (
	one    = trial.Number(1)
	two    = trial.Number(2)
	ints   = trial.Kind("int")
	null   = trial.Kind("null")
	top    = value.Top().V
	bottom = api.Value{}
	list   = trial.List
	record = trial.Record
)

// shown returns a text of a value.
func shown(v api.Value) string {
	return trial.Show(value.Plain(v))
}

// texts returns the texts of paths.
func texts(l [][]api.Step) []string {
	var s []string
	for _, path := range l {
		s = append(s, steps.Text(path))
	}
	return s
}

// number, of and items return data.
func number(n int64) api.Data {
	return api.Data{Kind: api.Number, Num: n * api.Unit}
}

func items(l ...api.Data) api.Data {
	return api.Data{Kind: api.List, Items: l}
}

func of(l ...api.Member) api.Data {
	return api.Data{Kind: api.Struct, Members: l}
}

// member returns a member.
func member(label string, d api.Data) api.Member {
	return api.Member{Label: label, Data: d}
}

// failures is the definition of Failures for valid arguments.
func failures(v api.Value, d api.Data) [][]api.Step {
	if trial.Has(v, d) {
		return nil
	}
	var l [][]api.Step
	add := func(s api.Step, paths [][]api.Step) {
		for _, p := range paths {
			l = append(l, append([]api.Step{s}, p...))
		}
	}
	switch {
	case d.Kind == api.Struct && len(v.Structs) == 1:
		c := v.Structs[0]
		for _, m := range d.Members {
			u, _ := value.View(c, m.Label)
			add(api.Step{Label: m.Label}, failures(u.V, m.Data))
		}
		for _, f := range c.Fields {
			if !slices.ContainsFunc(d.Members, func(m api.Member) bool { return m.Label == f.Label }) {
				add(api.Step{Label: f.Label}, [][]api.Step{nil})
			}
		}
		for i, p := range l {
			if p[0].Label == "" {
				l[i] = nil
			}
		}
		slices.SortFunc(l, steps.Compare)
		return slices.CompactFunc(l, func(p, q []api.Step) bool { return steps.Compare(p, q) == 0 })
	case d.Kind == api.List && len(v.Lists) == 1 && (len(d.Items) == len(v.Lists[0].Items) || len(d.Items) > len(v.Lists[0].Items) && len(v.Lists[0].Rest) > 0):
		for i, item := range d.Items {
			u, _ := value.Item(v.Lists[0], i)
			add(api.Step{Index: i}, failures(u.V, item))
		}
		return l
	}
	return [][]api.Step{nil}
}

// TestHas compares Has, Count and Failures with their definitions (P18.1, P18.2), and checks where the paths lead (P18.3).
func TestHas(t *testing.T) {
	x := trial.Random(181)
	yes, no, long, empty := 0, 0, 0, 0
	for i := range 5000 {
		v := trial.Simple(&x)
		if i%3 == 0 {
			v = trial.Valid(&x, 1+x.Below(3)).V
		}
		var l []api.Data
		count := 0
		for range 5 {
			d := trial.DataNear(&x, v)
			before, e := data.Make(d)
			if e != api.OK {
				t.Fatalf("%v: %d", d, e)
			}
			l = append(l, d)
			want := trial.Has(v, d)
			if instance.Has(v, d) != want {
				t.Fatalf("Has(%s, %v): %v", shown(v), d, !want)
			}
			got, paths := instance.Failures(v, d), failures(v, d)
			if !slices.EqualFunc(got, paths, slices.Equal) || (len(got) == 0) != want || !slices.IsSortedFunc(got, steps.Compare) {
				t.Fatalf("Failures(%s, %v): %q, want %q", shown(v), d, texts(got), texts(paths))
			}
			checkPaths(t, d, got)
			if !data.Equal(d, before) {
				t.Fatalf("%v is changed to %v", before, d)
			}
			if want {
				yes++
				count++
				continue
			}
			no++
			if len(got) > 1 {
				long++
			}
			if slices.ContainsFunc(got, func(p []api.Step) bool { return len(p) > 1 }) {
				empty++
			}
		}
		if got := instance.Count(v, l); got != count {
			t.Fatalf("Count(%s, %v): %d, want %d", shown(v), l, got, count)
		}
	}
	if yes < 5000 || no < 5000 || long < 500 || empty < 500 {
		t.Errorf("%d instances, %d others; %d with several paths, %d with long ones", yes, no, long, empty)
	}
}

// checkPaths checks that each path leads to a part of d, or to a label that a struct of d lacks (P18.3).
func checkPaths(t *testing.T, d api.Data, paths [][]api.Step) {
	t.Helper()
	for _, p := range paths {
		if !steps.Valid(p) {
			t.Fatalf("path %v is not valid", p)
		}
		if _, ok := data.Get(d, p); ok {
			continue
		}
		last := p[len(p)-1]
		if outer, ok := data.Get(d, p[:len(p)-1]); !ok || outer.Kind != api.Struct || last.Label == "" {
			t.Fatalf("path %s of %v", steps.Text(p), d)
		}
	}
}

// TestBounds checks the instances of greatest lower bounds and of unions, and of values that are below others (P18.3).
func TestBounds(t *testing.T) {
	x := trial.Random(182)
	both, either, below := 0, 0, 0
	for range 1500 {
		a, b := trial.Near(&x)
		m, e := unify.Meet(a.V, b.V)
		u := trial.Union(a.V, b.V)
		if e != api.OK {
			t.Fatalf("Meet: %d", e)
		}
		for range 20 {
			d := trial.DataNear(&x, trial.Pick(&x, a.V, b.V, m))
			p, q := instance.Has(a.V, d), instance.Has(b.V, d)
			if instance.Has(m, d) != (p && q) || instance.Has(u, d) != (p || q) {
				t.Fatalf("%v: %s, %s, %s, %s", d, trial.Show(a), trial.Show(b), shown(m), shown(u))
			}
			if p && q {
				both++
			}
			if p != q {
				either++
			}
			if refine.Leq(a, b) {
				below++
				if p && !q {
					t.Fatalf("%v: %s, %s", d, trial.Show(a), trial.Show(b))
				}
			}
		}
	}
	if both < 3000 || either < 2000 || below < 3000 {
		t.Errorf("%d instances of both, %d of one, %d with values that are below others", both, either, below)
	}
}

// TestFailures checks the paths of some data, and which data is an instance (P18.1, P18.2).
func TestFailures(t *testing.T) {
	closed, longer, open, shut, present, required := trial.Closed, trial.Longer, trial.Open, trial.Shut, trial.Present, trial.Required
	str := api.Data{Kind: api.String, Str: "x"}
	inner := record(shut(present("c", ints), required("d", list(closed(ints, ints)))))
	for i, c := range []struct {
		v    api.Value
		d    api.Data
		want []string
	}{
		{record(shut(present("a", ints))), of(member("a", number(1)), member("b", number(2))), []string{"b"}}, // example 1
		{top, str, nil}, {top, items(str), nil}, {top, of(member("", str)), nil}, {bottom, str, []string{"."}}, {bottom, items(), []string{"."}}, {bottom, of(), []string{"."}},
		{ints, number(1), nil}, {ints, api.Data{Kind: api.Number, Num: 5000}, []string{"."}}, {ints, str, []string{"."}}, {null, api.Data{Kind: api.Null}, nil},
		{api.Value{Scalars: scalar.All()}, api.Data{Kind: api.Bool, Num: 1}, nil}, {api.Value{Scalars: scalar.All()}, items(), []string{"."}}, {api.Value{Scalars: scalar.All()}, of(), []string{"."}},
		// Lists.
		{list(closed()), items(), nil}, {list(closed()), items(str), []string{"."}}, {list(closed(ints)), items(), []string{"."}}, {list(closed(ints)), items(number(1)), nil},
		{list(closed(ints, ints)), items(str, number(1)), []string{"[0]"}}, {list(closed(ints, ints)), items(str, str), []string{"[0]", "[1]"}}, {list(closed(ints, ints)), items(number(1), number(2), str), []string{"."}},
		{list(longer(ints)), items(), nil}, {list(longer(ints)), items(number(1), str, number(2), str), []string{"[1]", "[3]"}}, {list(longer(ints, null)), items(), []string{"."}}, {list(longer(ints, null)), items(number(1), str), []string{"[0]", "[1]"}},
		{list(longer(list(longer(ints)))), items(items(), items(number(1), str), str), []string{"[1][1]", "[2]"}},
		{list(closed(ints), closed(null)), items(str), []string{"."}}, {list(closed(ints), longer(null, null)), items(api.Data{Kind: api.Null}), nil},
		{list(longer(ints)), str, []string{"."}}, {list(longer(ints)), of(), []string{"."}}, {api.Value{Scalars: ints.Scalars, Lists: []api.ListCase{longer(ints)}}, items(str), []string{"[0]"}},
		// Structs.
		{record(open()), of(), nil}, {record(shut()), of(member("a", str)), []string{"a"}}, {record(shut()), of(member("b", str), member("c", of())), []string{"b", "c"}},
		{record(open(present("a", ints), required("b", ints))), of(), []string{"a", "b"}}, {record(open(present("a", ints), required("b", ints))), of(member("a", str), member("c", str)), []string{"a", "b"}},
		{record(open(present("b", ints), present("d", ints))), of(member("a", str), member("c", str), member("e", str)), []string{"b", "d"}},
		{record(shut(present("b", ints), present("d", ints))), of(member("a", str), member("c", str), member("e", str)), []string{"a", "b", "c", "d", "e"}},
		{record(trial.Fields(value.Plain(ints))), of(member("a", number(1)), member("b", str)), []string{"b"}},
		{record(open(present("a", inner), present("b", inner))), of(member("a", of(member("c", str), member("d", items(number(1), str)), member("e", str))), member("b", str)), []string{"a.c", "a.d[1]", "a.e", "b"}},
		{record(open(present("a", inner))), of(member("a", of(member("d", items())))), []string{"a.c", "a.d"}},
		{record(open(present("a b", inner))), of(member("a b", of(member("c", number(1))))), []string{`"a b".d`}},
		{record(shut(present("a", ints)), shut(present("b", ints))), of(member("a", str)), []string{"."}}, {record(shut(present("a", ints)), shut(present("b", ints))), of(member("b", number(1))), nil},
		{record(open()), str, []string{"."}}, {record(open()), items(), []string{"."}}, {api.Value{Scalars: ints.Scalars, Structs: []api.StructCase{shut()}}, of(member("a", str)), []string{"a"}},
		{record(open(present("a", record(shut(present("a", ints)), shut(present("b", ints)))))), of(member("a", of())), []string{"a"}},
		// Members with the empty label, and fields with it.
		{record(open(present("", ints))), of(member("", number(1))), nil}, {record(open(present("", ints))), of(member("", str)), []string{"."}}, {record(open(present("", ints))), of(), []string{"."}},
		{record(shut()), of(member("", str)), []string{"."}}, {record(shut()), of(member("", str), member("a", str)), []string{".", "a"}}, {record(open(required("", inner), required("a", ints))), of(member("", of())), []string{".", "a"}},
		{record(open(required("", inner))), of(member("", of(member("", str), member("c", str)))), []string{"."}},
		{record(open(present("a", record(open(required("", ints)))))), of(member("a", of())), []string{"a"}}, {record(open(present("a", record(shut())))), of(member("a", of(member("", str), member("b", str)))), []string{"a", "a.b"}},
		{list(longer(record(shut()))), items(of(), of(member("", str))), []string{"[1]"}},
	} {
		v := trial.Made(value.Plain(c.v)).V
		got := instance.Failures(v, c.d)
		if !slices.Equal(texts(got), c.want) {
			t.Errorf("case %d: Failures of %v: %q, want %q", i, c.d, texts(got), c.want)
		}
		if instance.Has(v, c.d) != (c.want == nil) || (instance.Count(v, []api.Data{c.d, c.d}) == 2) != (c.want == nil) {
			t.Errorf("case %d: Has of %v", i, c.d)
		}
	}
	if want := [][]api.Step{{{Label: "a"}, {Label: "d"}, {Index: 1}}}; !reflect.DeepEqual(instance.Failures(record(open(present("a", inner))), of(member("a", of(member("c", number(1)), member("d", items(number(1), str)))))), want) {
		t.Error("the steps of a path")
	}
}

// TestDefaults checks that defaults do not matter (P18.1).
func TestDefaults(t *testing.T) {
	x := trial.Random(183)
	bare := func(v api.Val) api.Val { return trial.Marked(v.V, bottom) }
	for _, v := range []api.Val{trial.Marked(ints, one), trial.Marked(ints, bottom), trial.Marked(ints, ints)} {
		for _, u := range []api.Value{
			list(api.ListCase{Items: []api.Val{v}}), list(api.ListCase{Rest: []api.Val{v}}),
			record(trial.Shut(api.Field{Label: "a", Presence: api.Present, Val: v})), record(trial.Fields(v)),
		} {
			if !instance.Has(u, items(number(2))) && !instance.Has(u, of(member("a", number(2)))) {
				t.Errorf("2 in %s", shown(u))
			}
		}
	}
	for range 500 {
		v := trial.Valid(&x, 2)
		d := trial.DataNear(&x, v.V)
		if instance.Has(v.V, d) != instance.Has(trial.Made(bare(v)).V, d) {
			t.Fatalf("%v in %s", d, trial.Show(v))
		}
	}
}

// wrongData returns data that is not valid, each for one reason.
func wrongData() []api.Data {
	deep := items()
	for range api.MaxDepth {
		deep = items(deep)
	}
	return []api.Data{
		{}, {Kind: 7}, {Kind: -1}, {Kind: api.Null, Num: 1}, {Kind: api.Bool, Num: 2}, {Kind: api.Number, Num: api.MaxUnits + 1}, {Kind: api.Number, Str: "x"},
		{Kind: api.List, Members: []api.Member{{}}}, {Kind: api.Struct, Items: []api.Data{{}}}, of(member("b", number(1)), member("a", number(1))), of(member("a", number(1)), member("a", number(1))), deep,
	}
}

// TestInvalid checks values and data that are not valid (P18.1, P18.2).
func TestInvalid(t *testing.T) {
	for i, v := range trial.WrongValues() {
		for _, d := range []api.Data{{Kind: api.Null}, number(1), items(), items(number(1)), of(), of(member("a", number(1))), of(member("b", api.Data{Kind: api.Null}))} {
			if got := instance.Failures(v, d); instance.Has(v, d) || instance.Count(v, []api.Data{d, d}) != 0 || len(got) != 1 || len(got[0]) != 0 {
				t.Errorf("wrong value %d: %q", i, texts(got))
			}
		}
	}
	str := api.Data{Kind: api.String, Str: "x"}
	for i, d := range wrongData() {
		for _, e := range []api.Data{d, items(number(1), d), of(member("a", d)), items(of(member("a", str)), of(member("", d)))} {
			for _, v := range []api.Value{top, bottom, list(trial.Closed(ints, null)), record(trial.Shut()), list(trial.Longer(record(trial.Shut())))} {
				if got := instance.Failures(v, e); instance.Has(v, e) || instance.Count(v, []api.Data{e}) != 0 || len(got) != 1 || len(got[0]) != 0 {
					t.Errorf("wrong data %d: %q", i, texts(got))
				}
			}
			if instance.Count(top, []api.Data{str, e, number(1), e, e}) != 2 {
				t.Errorf("Count of wrong data %d", i)
			}
		}
	}
	if instance.Count(top, nil) != 0 || instance.Count(ints, []api.Data{number(1), str, number(2), number(1)}) != 3 {
		t.Error("Count")
	}
}

// TestDeep checks values and data of the greatest depth, and values that contain themselves (P18.1, P18.2).
func TestDeep(t *testing.T) {
	v, w, d, e := ints, ints, number(1), api.Data{Kind: api.Null}
	for range api.MaxDepth - 1 {
		v, w = list(api.ListCase{Rest: []api.Val{trial.Marked(v, bottom)}}), record(trial.Open(trial.Present("a", w)))
		d, e = items(d, d), of(member("a", e))
	}
	if !instance.Has(v, d) || instance.Has(w, e) || len(instance.Failures(v, d)) > 0 {
		t.Error("the greatest depth")
	}
	if got := instance.Failures(w, e); len(got) != 1 || len(got[0]) != api.MaxDepth-1 {
		t.Errorf("Failures: %q", texts(got))
	}
	d = number(1)
	for range api.MaxDepth - 1 {
		d = items(d, items())
	}
	if got := instance.Failures(v, d); instance.Has(v, d) || len(got) != 1 || len(got[0]) != api.MaxDepth-1 {
		t.Errorf("Failures: %q", texts(got))
	}
	u := list(api.ListCase{Items: []api.Val{value.Plain(one)}})
	u.Lists[0].Items[0].V = u
	if got := instance.Failures(u, items()); instance.Has(u, items()) || instance.Count(u, []api.Data{items()}) != 0 || len(got) != 1 || len(got[0]) != 0 {
		t.Error("a value that contains itself")
	}
	loop := items(number(1))
	loop.Items[0] = loop
	if got := instance.Failures(top, loop); instance.Has(top, loop) || len(got) != 1 || len(got[0]) != 0 {
		t.Error("data that contains itself")
	}
}

// TestMany checks values and data with many parts (P18.1, P18.2).
func TestMany(t *testing.T) {
	const n = 20000
	var l []api.Data
	var fields []api.Field
	var members []api.Member
	for i := range n {
		l = append(l, number(int64(i)))
		if i < 500 {
			label := string([]byte{byte('a' + i/26), byte('a' + i%26)})
			fields = append(fields, trial.Present(label, trial.Number(int64(i))))
			members = append(members, member(label, number(int64(i))))
		}
	}
	if v := list(trial.Longer(ints)); !instance.Has(v, items(l...)) || instance.Has(list(trial.Longer(ints), trial.Longer(null, null)), items(append(l, api.Data{Kind: api.Null})...)) || instance.Count(ints, l) != n {
		t.Error("many items")
	}
	if got := instance.Failures(list(trial.Longer(one)), items(l...)); len(got) != n-1 || got[n-2][0].Index != n-1 {
		t.Errorf("%d failures", len(got))
	}
	v := record(trial.Shut(fields...))
	if !instance.Has(v, of(members...)) {
		t.Error("many members")
	}
	members[3].Data = of()
	if got := instance.Failures(v, of(append(members[:7:7], members[8:]...)...)); !slices.Equal(texts(got), []string{"ad", "ah"}) {
		t.Errorf("Failures: %q", texts(got))
	}
}

// TestMemory checks that no two paths share memory, and that the value stays as it is (P18.2).
func TestMemory(t *testing.T) {
	x := trial.Random(184)
	for range 2000 {
		v := trial.Simple(&x)
		before := parts.Copy(v)
		m := trial.Memory{}
		l := instance.Failures(v, trial.DataNear(&x, v))
		trial.Note(m, l)
		for _, path := range l {
			trial.Note(m, path)
		}
		if m.Twice() || !parts.Same(v, before) {
			t.Fatalf("paths of %s: %q", shown(v), texts(l))
		}
	}
}
