package closing_test

import (
	"testing"

	"configlang/api"
	"configlang/automaton"
	"configlang/closing"
	"configlang/instance"
	"configlang/parts"
	"configlang/refine"
	"configlang/scalar"
	"configlang/trial"
	"configlang/unify"
	"configlang/value"
)

// Values of the tests below.
var (
	one      = trial.Number(1)
	ints     = trial.Kind("int")
	null     = trial.Kind("null")
	top      = value.Top().V
	bottom   = api.Value{}
	list     = trial.List
	record   = trial.Record
	open     = trial.Open
	shut     = trial.Shut
	plain    = value.Plain
	marked   = trial.Marked
	present  = trial.Present
	required = trial.Required
)

// shown returns a text of a value.
func shown(v api.Value) string {
	return trial.Show(plain(v))
}

// random returns a random valid Val, often with open and closed structs.
func random(x *trial.Random) api.Val {
	switch x.Below(4) {
	case 0:
		v, _ := trial.Near(x)
		return v
	case 1:
		inner := random(x)
		if value.IsBottom(inner.V) {
			inner = value.Top()
		}
		return trial.Made(plain(record(trial.Fields(trial.Pick(x, value.Top(), value.Bottom(), random(x)), api.Field{Label: trial.Pick(x, trial.Labels()...), Presence: 1 + x.Below(2), Val: inner}))))
	}
	return trial.Valid(x, 1+x.Below(4))
}

// TestClose compares Close and Open with their definitions (P17.1), and checks what they leave (P17.3).
func TestClose(t *testing.T) {
	x := trial.Random(171)
	changed, opened, unchanged := 0, 0, 0
	for range 800 {
		v := random(&x)
		before := parts.CopyVal(v)
		c, e := closing.Close(v)
		if e != api.OK || !value.Equal(c, turnedVal(v, closes)) || !refine.Valid(c) {
			t.Fatalf("Close(%s): %s, %d, want %s", trial.Show(v), trial.Show(c), e, trial.Show(turnedVal(v, closes)))
		}
		o, e := closing.Open(v)
		if e != api.OK || !value.Equal(o, turnedVal(v, opens)) || !refine.Valid(o) {
			t.Fatalf("Open(%s): %s, %d, want %s", trial.Show(v), trial.Show(o), e, trial.Show(turnedVal(v, opens)))
		}
		if !parts.SameVal(v, before) {
			t.Fatalf("%s is changed", trial.Show(before))
		}
		again, e := closing.Close(c)
		if e != api.OK || !value.Equal(again, c) {
			t.Fatalf("Close twice of %s: %s, %d", trial.Show(v), trial.Show(again), e)
		}
		if !refine.Leq(c, v) || !refine.Leq(v, o) {
			t.Fatalf("%s is not between %s and %s", trial.Show(v), trial.Show(c), trial.Show(o))
		}
		if closing.Closed(c.V) == v.V.Any {
			t.Fatalf("Closed of Close(%s): %v", trial.Show(v), v.V.Any)
		}
		if !structs(v.V) && !structs(v.D) {
			unchanged++
			if !value.Equal(c, v) || !value.Equal(o, v) {
				t.Fatalf("%s, which has no structs, is changed", trial.Show(v))
			}
		}
		if !value.Equal(c, v) {
			changed++
		}
		if !value.Equal(o, v) {
			opened++
		}
	}
	if changed < 80 || opened < 80 || unchanged < 100 {
		t.Errorf("%d are closed, %d are opened, %d have no structs", changed, opened, unchanged)
	}
}

// TestClosed compares Closed with its definition (P17.2).
func TestClosed(t *testing.T) {
	x := trial.Random(172)
	yes, no := 0, 0
	for range 1500 {
		v := random(&x)
		for _, u := range []api.Value{v.V, v.D} {
			want := closed(u)
			if closing.Closed(u) != want {
				t.Fatalf("Closed(%s): %v", shown(u), !want)
			}
			if want {
				yes++
			} else {
				no++
			}
		}
	}
	if yes < 500 || no < 500 {
		t.Errorf("%d are closed, %d are not", yes, no)
	}
}

// TestShape compares Shape with its definition (P17.1), and checks that values are below their shapes, and that shapes are their own ones (P17.3).
func TestShape(t *testing.T) {
	x := trial.Random(173)
	shapes, all := 0, 0
	for range 1500 {
		v := random(&x).V
		before := parts.Copy(v)
		s, e := closing.Shape(v)
		if e != api.OK || !value.Equal(s, plain(shape(v))) || !refine.Valid(s) {
			t.Fatalf("Shape(%s): %s, %d, want %s", shown(v), trial.Show(s), e, shown(shape(v)))
		}
		if !parts.Same(v, before) {
			t.Fatalf("%s is changed", shown(before))
		}
		if !refine.Below(v, s.V) {
			t.Fatalf("%s is not below its shape %s", shown(v), trial.Show(s))
		}
		if again, e := closing.Shape(s.V); e != api.OK || !value.Equal(again, s) {
			t.Fatalf("Shape of the shape of %s: %s, %d", shown(v), trial.Show(again), e)
		}
		if !structs(v) && !value.IsTop(s) {
			t.Fatalf("Shape(%s): %s", shown(v), trial.Show(s))
		}
		if value.IsTop(s) {
			all++
		} else {
			shapes++
		}
	}
	if shapes < 200 || all < 400 {
		t.Errorf("%d shapes, %d of them everything", shapes+all, all)
	}
}

// TestForbidden checks that what all struct cases of a value forbid is forbidden by all those of bounds of its shape (P17.3).
func TestForbidden(t *testing.T) {
	x := trial.Random(174)
	labels := append(trial.Labels(), "x", "aa", "zz")
	forbid := func(v api.Value, label string) bool {
		for _, c := range v.Structs {
			if u, _ := value.View(c, label); !value.IsBottom(u.V) {
				return false
			}
		}
		return true
	}
	forbidden, cases := 0, 0
	for range 1200 {
		v, w := random(&x), random(&x)
		if len(v.V.Structs) == 0 {
			continue
		}
		if x.Below(2) == 0 {
			w = trial.Made(trial.LowerVal(&x, v))
		}
		s, _ := closing.Shape(v.V)
		m, e := unify.Meet(s.V, w.V)
		if e != api.OK {
			t.Fatalf("Meet: %d", e)
		}
		for _, label := range labels {
			if !forbid(v.V, label) {
				continue
			}
			forbidden++
			cases += len(m.Structs)
			if !forbid(m, label) {
				t.Fatalf("%s forbids %q, but %s does not", shown(v.V), label, shown(m))
			}
		}
	}
	if forbidden < 500 || cases < 500 {
		t.Errorf("%d forbidden labels, %d cases", forbidden, cases)
	}
}

// TestExamples checks values by hand (P17.1, P17.2).
func TestExamples(t *testing.T) {
	field := func(label string, v api.Val) api.Field {
		return api.Field{Label: label, Presence: api.Present, Val: v}
	}
	a := automaton.Word("a")
	split := func(v, others api.Val) api.StructCase {
		return api.StructCase{Classes: []api.Class{{Set: a, Val: v}, trial.Others(others, "a")}}
	}
	inner, closedInner := record(open(present("b", one))), record(shut(present("b", one)))
	written := api.Value{Scalars: scalar.All(), Lists: []api.ListCase{trial.Longer(top)}, Structs: []api.StructCase{shut()}}
	for i, c := range []struct{ v, closed, opened api.Val }{
		{value.Top(), value.Top(), value.Top()}, {value.Bottom(), value.Bottom(), value.Bottom()}, {marked(ints, one), marked(ints, one), marked(ints, one)}, {marked(top, bottom), marked(top, bottom), marked(top, bottom)},
		{plain(list(trial.Longer(top, ints))), plain(list(trial.Longer(top, ints))), plain(list(trial.Longer(top, ints)))},
		{plain(record(open(present("a", ints)))), plain(record(shut(present("a", ints)))), plain(record(open(present("a", ints))))}, // example 1
		{plain(record(shut())), plain(record(shut())), plain(record(open()))},                                                       // example 3
		{plain(record(open(required("a", top)))), plain(record(shut(required("a", top)))), plain(record(open(required("a", top))))},
		// Only classes with Top are closed, only those with Bottom are opened.
		{plain(record(trial.Fields(plain(ints)))), plain(record(trial.Fields(plain(ints)))), plain(record(trial.Fields(plain(ints))))},
		{plain(record(trial.Fields(marked(top, one)))), plain(record(trial.Fields(marked(top, one)))), plain(record(trial.Fields(marked(top, one))))},
		{plain(record(trial.Fields(marked(top, bottom)))), plain(record(trial.Fields(marked(top, bottom)))), plain(record(trial.Fields(marked(top, bottom))))},
		{plain(record(split(value.Top(), value.Bottom()))), plain(record(shut())), plain(record(open()))},
		{plain(record(split(plain(ints), value.Top()))), plain(record(split(plain(ints), value.Bottom()))), plain(record(split(plain(ints), value.Top())))},
		// All parts of a value are closed, also those of closed ones.
		{plain(record(shut(present("a", inner)))), plain(record(shut(present("a", closedInner)))), plain(record(open(present("a", inner))))},
		{plain(list(trial.Closed(inner))), plain(list(trial.Closed(closedInner))), plain(list(trial.Closed(inner)))}, {plain(list(trial.Longer(inner))), plain(list(trial.Longer(closedInner))), plain(list(trial.Longer(inner)))},
		{plain(record(trial.Fields(plain(inner)))), plain(record(trial.Fields(plain(closedInner)))), plain(record(trial.Fields(plain(inner))))},
		{plain(record(open(field("a", marked(ints, one))))), plain(record(shut(field("a", marked(ints, one))))), plain(record(open(field("a", marked(ints, one)))))},
		// The default is closed with its value.
		{marked(record(open(required("a", ints))), record(open(present("a", one)))), marked(record(shut(required("a", ints))), record(shut(present("a", one)))), marked(record(open(required("a", ints))), record(open(present("a", one))))},
		{marked(record(open()), record(open(present("a", one)))), marked(record(shut()), bottom), marked(record(open()), record(open(present("a", one))))},
		{marked(record(open()), record(shut())), plain(record(shut())), plain(record(open()))},
		{marked(record(shut(), open(present("a", one))), record(shut())), marked(record(shut(), shut(present("a", one))), record(shut())), marked(record(open()), record(open()))},
		{plain(record(open(field("a", marked(record(open()), inner))))), plain(record(shut(field("a", marked(record(shut()), bottom))))), plain(record(open(field("a", marked(record(open()), inner)))))},
		{marked(top, inner), marked(top, closedInner), marked(top, inner)},
		// Cases may become equal, or below others, and all of them everything.
		{plain(record(shut(present("a", one)), open(present("a", one), present("b", one)))), plain(record(shut(present("a", one)), shut(present("a", one), present("b", one)))), plain(record(open(present("a", one))))},
		{plain(record(split(value.Top(), plain(one)), split(plain(null), value.Top()))), plain(record(split(value.Bottom(), plain(one)), split(plain(null), value.Bottom()))), plain(record(split(value.Top(), plain(one)), split(plain(null), value.Top())))},
		{plain(record(open(present("a", one)), trial.Fields(plain(ints), required("a", ints)))), plain(record(trial.Fields(plain(ints), required("a", ints)))), plain(record(open(present("a", one)), trial.Fields(plain(ints), required("a", ints))))},
		{plain(written), plain(written), value.Top()},
		{plain(record(open(present("a", written)))), plain(record(shut(present("a", written)))), plain(record(open(present("a", top))))},
	} {
		v, closed, opened := trial.Made(c.v), trial.Made(c.closed), trial.Made(c.opened)
		if got, e := closing.Close(v); e != api.OK || !value.Equal(got, closed) {
			t.Errorf("case %d: Close is %s, %d", i, trial.Show(got), e)
		}
		if got, e := closing.Open(v); e != api.OK || !value.Equal(got, opened) {
			t.Errorf("case %d: Open is %s, %d", i, trial.Show(got), e)
		}
		if want := !v.V.Any && value.Equal(plain(v.V), plain(closed.V)); closing.Closed(v.V) != want {
			t.Errorf("case %d: Closed is %v", i, !want)
		}
	}
	// A class with Top in a default alone leaves the value open.
	if !closing.Closed(record(shut(field("a", marked(top, record(shut())))))) {
		t.Error("a closed default")
	}
	if closing.Closed(record(shut(field("a", marked(top, record(open())))))) || closing.Closed(list(api.ListCase{Rest: []api.Val{marked(top, record(open()))}})) || closing.Closed(list(api.ListCase{Items: []api.Val{plain(top), marked(top, inner)}})) {
		t.Error("an open default")
	}
	closedValue, _ := closing.Close(plain(record(open(present("a", ints)))))
	for _, label := range []string{"a", "b", ""} {
		u, _ := value.View(closedValue.V.Structs[0], label)
		if value.IsBottom(u.V) != (label != "a") {
			t.Errorf("label %q of the closed struct: %s", label, trial.Show(u))
		}
	}
}

// TestShapes checks shapes by hand (P17.1).
func TestShapes(t *testing.T) {
	a, b := automaton.Word("a"), automaton.Word("b")
	class := func(set api.Lang, v api.Val) api.Class { return api.Class{Set: set, Val: v} }
	with := func(l ...api.StructCase) api.Value {
		return api.Value{Scalars: scalar.All(), Lists: []api.ListCase{trial.Longer(top)}, Structs: l}
	}
	onlyA := api.StructCase{Classes: []api.Class{class(a, value.Top()), trial.Others(value.Bottom(), "a")}}
	onlyB := api.StructCase{Classes: []api.Class{class(b, value.Top()), trial.Others(value.Bottom(), "b")}}
	for i, c := range []struct{ v, want api.Value }{
		{one, top}, {top, top}, {bottom, top}, {list(trial.Closed(record(shut()))), top}, {record(open()), top}, {record(open(present("a", ints))), top}, // example 4
		{record(shut(present("a", ints))), with(onlyA)}, {record(shut(required("a", ints))), with(onlyA)}, // example 2
		{record(shut()), with(shut())}, {record(trial.Fields(plain(ints))), top}, {record(trial.Fields(marked(ints, bottom))), top},
		{api.Value{Scalars: one.Scalars, Lists: []api.ListCase{{}}, Structs: []api.StructCase{shut()}}, with(shut())},
		{record(shut(present("a", one), present("b", one))), with(api.StructCase{Classes: []api.Class{class(trial.Strs("a|b"), value.Top()), trial.Others(value.Bottom(), "a", "b")}})},
		{record(shut(present("a", record(shut(present("b", one)))))), with(api.StructCase{Classes: []api.Class{class(a, plain(with(onlyB))), trial.Others(value.Bottom(), "a")}})},
		{record(open(present("a", record(shut())))), with(api.StructCase{Classes: []api.Class{class(a, plain(with(shut()))), trial.Others(value.Top(), "a")}})},
		{record(trial.Fields(plain(record(shut())), present("a", record(shut())))), with(trial.Fields(plain(with(shut()))))},
		// Cases that are below others are left out, and the default does not matter.
		{record(shut(), shut(present("a", one))), with(onlyA)}, {record(shut(present("a", one)), shut(present("b", one))), with(onlyA, onlyB)}, {record(shut(present("a", one)), open(present("b", one))), top},
		{record(shut(api.Field{Label: "a", Presence: api.Present, Val: marked(top, record(shut()))})), with(onlyA)},
		{record(shut(present("", one))), with(api.StructCase{Classes: []api.Class{class(automaton.Word(""), value.Top()), trial.Others(value.Bottom(), "")}})},
	} {
		v, want := trial.Made(plain(c.v)).V, trial.Made(plain(c.want))
		got, e := closing.Shape(v)
		if e != api.OK || !value.Equal(got, want) {
			t.Errorf("case %d: %s, %d, want %s", i, trial.Show(got), e, trial.Show(want))
		}
		for _, d := range []api.Data{{Kind: api.Null}, {Kind: api.String, Str: "x"}, {Kind: api.List, Items: []api.Data{{Kind: api.Null}}}} {
			if !instance.Has(got.V, d) {
				t.Errorf("case %d: the shape does not permit %v", i, d)
			}
		}
	}
}

// TestInvalid checks arguments that are not valid (P17.1, P17.2).
func TestInvalid(t *testing.T) {
	for i, v := range trial.Wrong() {
		if got, e := closing.Close(v); e != api.ErrKind || !parts.SameVal(got, api.Val{}) {
			t.Errorf("Close of wrong Val %d: %s, %d", i, trial.Show(got), e)
		}
		if got, e := closing.Open(v); e != api.ErrKind || !parts.SameVal(got, api.Val{}) {
			t.Errorf("Open of wrong Val %d: %s, %d", i, trial.Show(got), e)
		}
	}
	for i, v := range trial.WrongValues() {
		if got, e := closing.Shape(v); e != api.ErrKind || !parts.SameVal(got, api.Val{}) {
			t.Errorf("Shape of wrong value %d: %s, %d", i, trial.Show(got), e)
		}
		if closing.Closed(v) {
			t.Errorf("Closed of wrong value %d", i)
		}
	}
}

// TestMemory checks that results share no memory with arguments, nor their parts with each other (P17.1).
func TestMemory(t *testing.T) {
	x := trial.Random(175)
	for range 1500 {
		v := parts.CopyVal(random(&x))
		c, _ := closing.Close(v)
		o, _ := closing.Open(v)
		s, _ := closing.Shape(v.V)
		if trial.Shares(v, c, o, s) {
			t.Fatalf("Close, Open or Shape of %s", trial.Show(v))
		}
	}
}
