package sample_test

import (
	"slices"
	"strconv"
	"testing"

	"configlang/api"
	"configlang/data"
	"configlang/instance"
	"configlang/parts"
	"configlang/sample"
	"configlang/scalar"
	"configlang/trial"
	"configlang/value"
)

// Values and data of the tests below.
var (
	one     = trial.Number(1)
	ints    = trial.Kind("int")
	strs    = trial.Kind("string")
	bools   = trial.Kind("bool")
	top     = value.Top().V
	bottom  = api.Value{}
	list    = trial.List
	record  = trial.Record
	closed  = trial.Closed
	longer  = trial.Longer
	open    = trial.Open
	shut    = trial.Shut
	present = trial.Present
	plain   = value.Plain
	null    = api.Data{Kind: api.Null}
)

// boolean, number, text, items, of and member return data.
func boolean(n int64) api.Data               { return api.Data{Kind: api.Bool, Num: n} }
func number(u int64) api.Data                { return api.Data{Kind: api.Number, Num: u} }
func whole(n int64) api.Data                 { return number(n * api.Unit) }
func text(s string) api.Data                 { return api.Data{Kind: api.String, Str: s} }
func items(l ...api.Data) api.Data           { return api.Data{Kind: api.List, Items: l} }
func of(l ...api.Member) api.Data            { return api.Data{Kind: api.Struct, Members: l} }
func member(s string, d api.Data) api.Member { return api.Member{Label: s, Data: d} }

// shown returns a text of a value.
func shown(v api.Value) string {
	return trial.Show(plain(v))
}

// texts returns the texts of data.
func texts(l []api.Data) []string {
	var s []string
	for _, d := range l {
		one, e := data.Text(d)
		if e != api.OK {
			one = "error " + strconv.Itoa(int(e))
		}
		s = append(s, one)
	}
	return s
}

// same reports whether two lists of data are equal.
func same(a, b []api.Data) bool {
	return slices.EqualFunc(a, b, data.Equal)
}

// random returns a random valid value.
func random(x *trial.Random) api.Value {
	if x.Below(2) == 0 {
		return trial.Simple(x)
	}
	return trial.Valid(x, 1+x.Below(4)).V
}

// TestSamples compares Least and Variants with their definitions, and checks that their results are instances (P20.1, P20.2, P20.4).
func TestSamples(t *testing.T) {
	x := trial.Random(201)
	lists, structs, empty := 0, 0, 0
	for range 5000 {
		v := random(&x)
		before := parts.Copy(v)
		d, ok := sample.Least(v)
		want, exists := least(v)
		if ok != exists || ok == value.IsBottom(v) {
			t.Fatalf("Least(%s): %v", shown(v), ok)
		}
		if ok && (!data.Equal(d, want) || !instance.Has(v, d)) || !ok && d.Kind != 0 {
			t.Fatalf("Least(%s): %q, want %q", shown(v), texts([]api.Data{d}), texts([]api.Data{want}))
		}
		l := sample.Variants(v)
		if !same(l, variants(v)) || instance.Count(v, l) != len(l) {
			t.Fatalf("Variants(%s): %q, want %q", shown(v), texts(l), texts(variants(v)))
		}
		if ok != slices.ContainsFunc(l, func(e api.Data) bool { return data.Equal(d, e) }) {
			t.Fatalf("Least(%s) is %q, but Variants are %q", shown(v), texts([]api.Data{d}), texts(l))
		}
		if !parts.Same(v, before) {
			t.Fatalf("%s is changed", shown(before))
		}
		switch d.Kind {
		case api.List:
			lists++
		case api.Struct:
			structs++
		case 0:
			empty++
		}
	}
	if lists < 300 || structs < 300 || empty < 300 {
		t.Errorf("%d samples are lists, %d structs, %d values are bottom", lists, structs, empty)
	}
}

// TestGrow compares Grow with its definition (P20.3), and checks that its results are instances (P20.4).
func TestGrow(t *testing.T) {
	x := trial.Random(202)
	instances, others, grown, alike := 0, 0, 0, 0
	for range 4000 {
		v := random(&x)
		l := append(sample.Variants(v), trial.DataNear(&x, v), trial.DataNear(&x, v), trial.DataNear(&x, v))
		for _, d := range l {
			before, _ := data.Make(d)
			got := sample.Grow(v, d)
			if !data.Equal(d, before) {
				t.Fatalf("%q is changed", texts([]api.Data{before}))
			}
			if !trial.Has(v, d) {
				others++
				if len(got) > 0 {
					t.Fatalf("Grow(%s, %q), which is no instance: %q", shown(v), texts([]api.Data{d}), texts(got))
				}
				continue
			}
			instances++
			want := grow(v, d)
			if !same(got, want) || instance.Count(v, got) != len(got) {
				t.Fatalf("Grow(%s, %q): %q, want %q", shown(v), texts([]api.Data{d}), texts(got), texts(want))
			}
			if len(got) > 0 {
				grown++
			}
			if slices.ContainsFunc(got[min(1, len(got)):], func(e api.Data) bool { return data.Equal(e, got[0]) }) {
				alike++
			}
		}
	}
	if instances < 5000 || others < 500 || grown < 1000 || alike < 10 {
		t.Errorf("%d instances, %d others, %d grow, %d have equal results", instances, others, grown, alike)
	}
}

// TestLeast checks samples by hand (P20.1, P20.2).
func TestLeast(t *testing.T) {
	or := func(l ...api.Value) api.Value {
		var all api.Value
		for _, v := range l {
			all = trial.Union(all, v)
		}
		return all
	}
	above, _ := scalar.Bound(">", number(25000))
	for i, c := range []struct {
		v    api.Value
		want []api.Data // the variants
		at   int        // which of them is the least one
	}{
		{bottom, nil, -1}, {top, []api.Data{null, boolean(0), boolean(1), whole(0), text(""), items(), of()}, 0},
		{or(trial.Number(3), trial.Text("x"), list(closed(one)), list(closed())), []api.Data{whole(3), text("x"), items(), items(whole(1))}, 0}, // example 2
		{record(shut(present("a", ints), present("b", strs))), []api.Data{of(member("a", whole(0)), member("b", text("")))}, 0},                 // example 1
		{bools, []api.Data{boolean(0), boolean(1)}, 0}, {or(trial.Kind("null"), bools), []api.Data{null, boolean(0), boolean(1)}, 0}, {strs, []api.Data{text("")}, 0},
		{api.Value{Scalars: above}, []api.Data{number(25001)}, 0}, {api.Value{Scalars: scalar.And(above, ints.Scalars)}, []api.Data{whole(3)}, 0},
		{trial.Kind("number"), []api.Data{whole(0)}, 0}, {or(trial.Text("b"), trial.Text("aa")), []api.Data{text("b")}, 0},
		{list(longer(one)), []api.Data{items()}, 0}, {list(longer(top, one, strs)), []api.Data{items(whole(1), text(""))}, 0}, {list(closed(trial.Text("b")), closed(one, one)), []api.Data{items(text("b")), items(whole(1), whole(1))}, 1},
		{list(closed(top), closed(one, one)), []api.Data{items(null), items(whole(1), whole(1))}, 0},
		{record(open(), shut()), []api.Data{of()}, 0}, {record(open(trial.Required("a", top))), []api.Data{of(member("a", null))}, 0}, {record(trial.Fields(plain(one), present("b", list(closed(one))))), []api.Data{of(member("b", items(whole(1))))}, 0},
		{record(shut(present("b", one)), shut(present("a", trial.Number(2)))), []api.Data{of(member("a", whole(2))), of(member("b", whole(1)))}, 0},
		{record(shut(present("a", trial.Number(5))), shut(trial.Required("a", one))), []api.Data{of(member("a", whole(5))), of(member("a", whole(1)))}, 1},
		{or(record(shut()), list(closed(one))), []api.Data{items(whole(1)), of()}, 0}, {or(record(shut()), list(closed(one)), strs), []api.Data{text(""), items(whole(1)), of()}, 0},
		{list(closed(list(closed(strs), longer(one)))), []api.Data{items(items())}, 0},
	} {
		v := trial.Made(plain(c.v)).V
		if got := sample.Variants(v); !same(got, c.want) {
			t.Errorf("case %d: Variants are %q", i, texts(got))
		}
		got, ok := sample.Least(v)
		if ok != (c.at >= 0) || ok && !data.Equal(got, c.want[c.at]) {
			t.Errorf("case %d: Least is %q, %v", i, texts([]api.Data{got}), ok)
		}
	}
	// The defaults do not matter.
	if d, ok := sample.Least(list(api.ListCase{Items: []api.Val{trial.Marked(ints, one), trial.Marked(ints, bottom)}})); !ok || !data.Equal(d, items(whole(0), whole(0))) {
		t.Errorf("a list with defaults: %q, %v", texts([]api.Data{d}), ok)
	}
}

// TestGrowing checks what instances become by hand (P20.3).
func TestGrowing(t *testing.T) {
	five, x := whole(5), text("x")
	either := trial.Union(ints, strs)
	for i, c := range []struct {
		v    api.Value
		d    api.Data
		want []api.Data
	}{
		{list(longer(ints)), items(five), []api.Data{items(), items(whole(0))}}, // example 3
		{ints, five, nil}, {top, five, nil}, {top, items(), nil}, {list(longer(ints)), items(), nil}, {list(longer(ints)), items(x), nil}, {bottom, five, nil}, {ints, x, nil},
		// Equal data occurs several times.
		{list(longer(ints)), items(five, five), []api.Data{items(five), items(five), items(whole(0), five), items(five, whole(0))}},
		{list(longer(ints)), items(five, whole(0)), []api.Data{items(whole(0)), items(five), items(whole(0), whole(0))}},
		{list(closed(ints, either)), items(five, x), []api.Data{items(whole(0), x), items(five, whole(0)), items(five, text(""))}},
		{list(longer(strs, ints)), items(five, x), []api.Data{items(five), items(whole(0), x), items(five, text(""))}},
		{list(longer(ints, strs)), items(x, five, five), []api.Data{items(x, five), items(x, five), items(text(""), five, five), items(x, whole(0), five), items(x, five, whole(0))}},
		// With several cases, nothing is replaced, and what is left may be an instance of another one.
		{list(closed(), closed(ints)), items(five), []api.Data{items()}}, {list(closed(strs), closed(ints, top)), items(five, x), []api.Data{items(x)}}, {list(closed(), closed(ints, ints)), items(five, five), nil},
		{top, items(five, x), []api.Data{items(x), items(five)}}, {top, of(member("a", five)), []api.Data{of()}},
		{record(open(present("a", ints))), of(member("a", five), member("b", x)), []api.Data{
			of(member("a", five)), of(member("a", whole(0)), member("b", x)), of(member("a", five), member("b", null)), of(member("a", five), member("b", boolean(0))), of(member("a", five), member("b", boolean(1))),
			of(member("a", five), member("b", whole(0))), of(member("a", five), member("b", text(""))), of(member("a", five), member("b", items())), of(member("a", five), member("b", of())),
		}},
		{record(trial.Fields(plain(either))), of(member("", x)), []api.Data{of(), of(member("", whole(0))), of(member("", text("")))}},
		{record(shut(present("a", ints)), shut(present("b", ints))), of(member("a", five)), nil}, {record(shut(present("a", ints)), shut()), of(member("a", five)), []api.Data{of()}},
		{record(shut(present("a", ints), present("b", ints)), shut(present("b", strs)), shut(present("a", either))), of(member("a", five), member("b", five)), []api.Data{of(member("a", five))}},
		// Cases of the other kind, and scalars, do not matter.
		{api.Value{Scalars: strs.Scalars, Lists: []api.ListCase{longer(ints)}, Structs: []api.StructCase{shut(), shut(present("a", ints))}}, items(five), []api.Data{items(), items(whole(0))}},
		{api.Value{Lists: []api.ListCase{closed(), closed(ints)}, Structs: []api.StructCase{shut(present("a", ints))}}, of(member("a", five)), []api.Data{of(member("a", whole(0)))}},
		{list(longer(list(closed(), closed(ints)))), items(items(five)), []api.Data{items(), items(items()), items(items(whole(0)))}},
	} {
		v := trial.Made(plain(c.v)).V
		if got := sample.Grow(v, c.d); !same(got, c.want) {
			t.Errorf("case %d: %q", i, texts(got))
		}
	}
}

// TestInvalid checks arguments that are not valid (P20.1 to P20.3).
func TestInvalid(t *testing.T) {
	l := trial.WrongValues()
	for i, v := range l {
		if d, ok := sample.Least(v); ok || !zero(d) {
			t.Errorf("Least of wrong value %d: %q, %v", i, texts([]api.Data{d}), ok)
		}
		if got := sample.Variants(v); len(got) > 0 {
			t.Errorf("Variants of wrong value %d: %q", i, texts(got))
		}
		for _, d := range []api.Data{null, whole(1), items(), items(whole(1)), of(), of(member("a", whole(1)))} {
			if got := sample.Grow(v, d); len(got) > 0 {
				t.Errorf("Grow of wrong value %d: %q", i, texts(got))
			}
		}
	}
	for i, d := range []api.Data{
		{}, {Kind: 7}, {Kind: api.Null, Num: 1}, {Kind: api.Bool, Num: 2}, {Kind: api.List, Items: []api.Data{{}}}, {Kind: api.List, Members: []api.Member{member("a", null)}},
		{Kind: api.Null, Items: []api.Data{null}}, of(member("b", null), member("a", null)), of(member("a", null), member("a", null)), of(member("a", api.Data{})),
	} {
		if got := sample.Grow(top, d); len(got) > 0 {
			t.Errorf("Grow of wrong data %d: %q", i, texts(got))
		}
	}
	if d, ok := sample.Least(bottom); ok || !zero(d) || len(sample.Variants(bottom)) > 0 {
		t.Error("bottom")
	}
}

// zero reports whether data has no parts.
func zero(d api.Data) bool {
	return d.Kind == 0 && d.Num == 0 && d.Str == "" && len(d.Items) == 0 && len(d.Members) == 0
}

// note counts the elements of all lists in data.
func note(m trial.Memory, d api.Data) {
	trial.Note(m, d.Items)
	for _, item := range d.Items {
		note(m, item)
	}
	trial.Note(m, d.Members)
	for _, e := range d.Members {
		note(m, e.Data)
	}
}

// TestMemory checks that results share no memory with arguments, nor with each other (P20.1 to P20.3).
func TestMemory(t *testing.T) {
	x := trial.Random(203)
	for range 2000 {
		v := random(&x)
		for _, d := range append(sample.Variants(v), trial.DataNear(&x, v)) {
			d, _ = data.Make(d)
			m := trial.Memory{}
			note(m, d)
			for _, e := range sample.Grow(v, d) {
				note(m, e)
			}
			if m.Twice() {
				t.Fatalf("Grow(%s, %q)", shown(v), texts([]api.Data{d}))
			}
		}
		m := trial.Memory{}
		d, _ := sample.Least(v)
		note(m, d)
		for _, e := range sample.Variants(v) {
			note(m, e)
		}
		if m.Twice() {
			t.Fatalf("Least or Variants of %s", shown(v))
		}
	}
}
