package builtin_test

import (
	"slices"
	"strconv"
	"strings"
	"testing"

	"configlang/api"
	"configlang/builtin"
	"configlang/concrete"
	"configlang/data"
	"configlang/jsontext"
	"configlang/parts"
	"configlang/refine"
	"configlang/scalar"
	"configlang/trial"
	"configlang/value"
)

// Values of the tests below.
var (
	one     = trial.Number(1)
	two     = trial.Number(2)
	ints    = trial.Kind("int")
	top     = value.Top().V
	bottom  = api.Value{}
	list    = trial.List
	record  = trial.Record
	closed  = trial.Closed
	longer  = trial.Longer
	open    = trial.Open
	shut    = trial.Shut
	present = trial.Present
	plain   = value.Plain
	marked  = trial.Marked
)

// same reports whether a result is the wanted one.
func same(v api.Val, e api.Errno, w api.Val, f api.Errno) bool {
	return e == f && parts.SameVal(v, w)
}

// exactly returns the Val of data.
func exactly(d api.Data) api.Val {
	v, _ := concrete.Of(d)
	return v
}

// shown returns a text of Vals.
func shown(l []api.Val) string {
	return strings.Join(parts.Each(l, trial.Show), "; ")
}

// TestNames checks Names and Arity (P31.1).
func TestNames(t *testing.T) {
	for range 2 {
		got := builtin.Names()
		if !slices.Equal(got, names) {
			t.Fatalf("Names: %q", got)
		}
		clear(got) // changes no other result
	}
	for _, name := range names {
		want := 1
		if name == "concat" {
			want = 2
		}
		if n, ok := builtin.Arity(name); n != want || !ok {
			t.Errorf("Arity(%q): %d, %v", name, n, ok)
		}
	}
	for _, name := range []string{"", "And", "an", "andy", "and ", "lens", "max\x00", "div", "concat2", "_", "length", "count"} {
		if n, ok := builtin.Arity(name); n != 0 || ok {
			t.Errorf("Arity(%q): %d, %v", name, n, ok)
		}
	}
}

// TestCall compares Call with its definition (P31.2, P31.3).
func TestCall(t *testing.T) {
	x := trial.Random(311)
	count := map[string]map[api.Errno]int{}
	for range 9000 {
		name := trial.Pick(&x, names...)
		args := []api.Val{random(&x)}
		for name == "concat" && len(args) < 2 || x.Below(40) == 0 {
			args = append(args, random(&x))
		}
		before := parts.Each(args, parts.CopyVal)
		got, e := builtin.Call(name, args)
		want, f := wanted(name, args)
		if !same(got, e, want, f) || !refine.Valid(got) {
			t.Fatalf("%s(%s): %s, %d, want %s, %d", name, shown(args), trial.Show(got), e, trial.Show(want), f)
		}
		if trial.Shares(append(args, got)...) || !slices.EqualFunc(args, before, parts.SameVal) {
			t.Fatalf("%s(%s): %s", name, shown(before), trial.Show(got))
		}
		if again, g := builtin.Call(name, args); !same(again, g, got, e) || trial.Shares(got, again) {
			t.Fatalf("%s(%s): %s again", name, shown(before), trial.Show(again))
		}
		if count[name] == nil {
			count[name] = map[api.Errno]int{}
		}
		count[name][e]++
	}
	for name, want := range map[string][]api.Errno{
		"and": {api.OK, api.ErrSize, api.ErrBottom, api.ErrOpen, api.ErrKind}, "or": {api.OK, api.ErrSize, api.ErrBottom, api.ErrOpen, api.ErrKind}, "close": {api.OK, api.ErrSize},
		"concat": {api.OK, api.ErrSize, api.ErrBottom, api.ErrOpen, api.ErrKind}, "range": {api.OK, api.ErrSize, api.ErrBottom, api.ErrOpen, api.ErrKind, api.ErrRange}, "sum": {api.OK, api.ErrSize, api.ErrBottom, api.ErrOpen, api.ErrKind, api.ErrRange},
		"max": {api.OK, api.ErrSize, api.ErrBottom, api.ErrOpen, api.ErrKind}, "values": {api.OK, api.ErrSize, api.ErrBottom, api.ErrOpen, api.ErrKind},
	} {
		for _, e := range want {
			if count[name][e] < 5 {
				t.Errorf("%s: error %d occurs %d times", name, e, count[name][e])
			}
		}
	}
}

// read returns data of JSON.
func read(t *testing.T, s string) api.Data {
	t.Helper()
	d, fault := jsontext.Parse(s)
	if fault.Errno != api.OK {
		t.Fatalf("%s: %d", s, fault.Errno)
	}
	return d
}

// TestData checks functions of data for some arguments, which are given as a list (P31.2, P31.3).
func TestData(t *testing.T) {
	for _, c := range []struct{ name, args, want string }{
		{"len", `["abc"]`, `3`}, {"len", `[[1, 2]]`, `2`}, // example 1
		{"len", `[""]`, `0`}, {"len", `[[]]`, `0`}, {"len", `[{}]`, `0`}, {"len", `[{"a": [1, 2, 3]}]`, `1`}, {"len", `[{"_a": 1, "#b": 2, "": 3}]`, `3`}, {"len", `[[[1, 2], 3, {"a": 1, "b": 2}]]`, `3`},
		{"concat", `[["a", "b"], "-"]`, `"a-b"`}, // example 3
		{"concat", `[[], "-"]`, `""`}, {"concat", `[["a"], "-"]`, `"a"`}, {"concat", `[["a", "b", "c"], ""]`, `"abc"`}, {"concat", `[["", "", ""], "ab"]`, `"abab"`}, {"concat", `[["b", "a", "b"], ", "]`, `"b, a, b"`},
		{"keys", `[{"b": 1, "a": {"c": 2}}]`, `["a", "b"]`}, {"keys", `[{}]`, `[]`}, {"keys", `[{"_h": 1, "#d": 2, "": 3, "B": 4, "a": 5}]`, `["", "#d", "B", "_h", "a"]`},
		{"values", `[{"b": 1, "a": {"c": 2}}]`, `[{"c": 2}, 1]`}, {"values", `[{}]`, `[]`}, {"values", `[{"_h": 1, "#d": 2, "": 3, "B": 4, "a": 4}]`, `[3, 2, 4, 1, 4]`}, {"values", `[{"a": {"_h": 1}, "b": []}]`, `[{"_h": 1}, []]`},
		{"max", `[[1, 2.5, -3]]`, `2.5`}, {"min", `[[1, 2.5, -3]]`, `-3`}, {"max", `[[-5]]`, `-5`}, {"min", `[[7, 7]]`, `7`}, {"max", `[[-2, -1.5]]`, `-1.5`}, {"min", `[[2, 1.5]]`, `1.5`},
		{"range", `[0]`, `[]`}, {"range", `[1]`, `[0]`}, {"range", `[4]`, `[0, 1, 2, 3]`},
		{"sort", `[[3, 1, 2]]`, `[1, 2, 3]`}, {"sort", `[[]]`, `[]`}, {"sort", `[["b", "ab", "a", "B", ""]]`, `["", "B", "a", "ab", "b"]`}, {"sort", `[[2, 1, 2, 1]]`, `[1, 1, 2, 2]`},
		{"sort", `[[{"a": 1}, {}, [1], [], "a", 1, -1.5, true, false, null, {"a": 0}, [0, 5]]]`, `[null, false, true, -1.5, 1, "a", [], [0, 5], [1], {}, {"a": 0}, {"a": 1}]`}, {"sort", `[[[2, 1], [1, 2]]]`, `[[1, 2], [2, 1]]`},
		{"sum", `[[]]`, `0`}, {"sum", `[[1, 2.5, -4]]`, `-0.5`}, {"sum", `[[100000000000, -1, 1]]`, `100000000000`}, {"sum", `[[5]]`, `5`},
	} {
		args := parts.Each(read(t, c.args).Items, exactly)
		want := exactly(read(t, c.want))
		if got, e := builtin.Call(c.name, args); !same(got, e, want, api.OK) {
			t.Errorf("%s(%s): %s, %d, want %s", c.name, c.args, trial.Show(got), e, c.want)
		}
	}
	if v, e := builtin.Call("len", []api.Val{exactly(text("\xff\x00é"))}); !same(v, e, exactly(number(4)), api.OK) {
		t.Errorf("len of bytes: %s, %d", trial.Show(v), e)
	}
	if v, e := builtin.Call("keys", []api.Val{exactly(of(member("\x00", number(1)), member("\xff", number(2))))}); !same(v, e, exactly(items(text("\x00"), text("\xff"))), api.OK) {
		t.Errorf("keys of bytes: %s, %d", trial.Show(v), e)
	}
	hundred, e := builtin.Call("range", []api.Val{exactly(number(100))})
	last, _ := concrete.Data(hundred, true)
	if e != api.OK || len(last.Items) != 100 || !data.Equal(last.Items[99], number(99)) {
		t.Errorf("range of 100: %d items, %d", len(last.Items), e)
	}
}

// TestDataErrors checks the errors of functions of data for some arguments (P31.3).
func TestDataErrors(t *testing.T) {
	for _, c := range []struct {
		name string
		e    api.Errno
		args []string
	}{
		{"len", api.ErrKind, []string{`[null]`, `[true]`, `[0]`, `[-2.5]`}},
		{"concat", api.ErrKind, []string{`["a", "b"]`, `[["a"], ["b"]]`, `[["a", 1], "-"]`, `[["a", ["b"]], "-"]`, `[[null], "-"]`, `[[], null]`, `[[], 1]`, `[{}, "-"]`, `[{"a": "b"}, "-"]`, `["", ""]`}},
		{"keys", api.ErrKind, []string{`[[]]`, `["a"]`, `[null]`, `[1]`, `[[{"a": 1}]]`}}, {"values", api.ErrKind, []string{`[[]]`, `["a"]`, `[null]`, `[false]`, `[[{"a": 1}]]`}},
		{"max", api.ErrKind, []string{`[[]]`, `[1]`, `["a"]`, `[["a"]]`, `[[1, "a"]]`, `[[[1]]]`, `[[null]]`, `[{}]`, `[{"a": 1}]`, `[[1, true]]`}}, // example 4
		{"min", api.ErrKind, []string{`[[]]`, `[1]`, `[null]`, `[["a"]]`, `[[1, {}]]`, `[[true, 1]]`, `[{"a": 1}]`}},
		{"range", api.ErrRange, []string{`[1.5]`, `[-1]`, `[-0.0001]`, `[101]`, `[100.0001]`, `[99.9999]`, `[0.5]`, `[100000000000]`, `[-100000000000]`}}, {"range", api.ErrKind, []string{`["1"]`, `[[1]]`, `[{}]`, `[null]`, `[true]`}},
		{"sort", api.ErrKind, []string{`["ba"]`, `[{"b": 1, "a": 2}]`, `[1]`, `[null]`}},
		{"sum", api.ErrKind, []string{`[1]`, `[{}]`, `["a"]`, `[["a"]]`, `[[1, null]]`, `[[1, true]]`, `[[[1]]]`, `[[100000000000, 100000000000, "a"]]`}},
		{"sum", api.ErrRange, []string{`[[100000000000, 1, -2]]`, `[[-100000000000, -0.0001]]`, `[[100000000000, 0.0001]]`}},
		{"len", api.ErrSize, []string{`[]`, `["a", "b"]`, `[1, 2, 3]`}}, {"concat", api.ErrSize, []string{`[]`, `[["a"]]`, `[["a"], "-", "-"]`}}, {"and", api.ErrSize, []string{`[]`, `[[1], [1]]`}}, {"or", api.ErrSize, []string{`[]`, `[[1], [1]]`}}, {"close", api.ErrSize, []string{`[]`, `[{}, {}]`}},
		{"", api.ErrName, []string{`[]`, `["a"]`}}, {"Len", api.ErrName, []string{`["a"]`}}, {"length", api.ErrName, []string{`["a"]`, `["a", "b"]`}},
		{"and", api.ErrKind, []string{`[{}]`, `[1]`, `["a"]`, `[null]`}}, {"or", api.ErrKind, []string{`[{}]`, `[1]`, `["a"]`, `[null]`}},
	} {
		for _, s := range c.args {
			if got, e := builtin.Call(c.name, parts.Each(read(t, s).Items, exactly)); !same(got, e, api.Val{}, c.e) {
				t.Errorf("%s(%s): %s, %d, want error %d", c.name, s, trial.Show(got), e, c.e)
			}
		}
	}
}

// TestValues checks functions for Vals that are not exact (P31.2, P31.3).
func TestValues(t *testing.T) {
	both := func(l ...api.Value) api.Value {
		all := bottom
		for _, v := range l {
			all = trial.Union(all, v)
		}
		return all
	}
	mixed := api.ListCase{Items: []api.Val{marked(both(one, two), one), plain(trial.Number(3))}}
	numbers := list(closed(one, two))
	field := func(v api.Val) api.Field { return api.Field{Label: "a", Presence: api.Present, Val: v} }
	for i, c := range []struct {
		name string
		v    api.Val
		want api.Val
		e    api.Errno
	}{
		{"len", plain(list(closed(ints, one))), api.Val{}, api.ErrOpen}, {"and", plain(list(closed(ints, one))), plain(one), api.OK}, {"or", plain(list(closed(ints, one))), plain(ints), api.OK}, // examples 1 and 2
		{"and", plain(list(closed())), value.Top(), api.OK}, {"or", plain(list(closed())), value.Bottom(), api.OK}, {"and", plain(numbers), value.Bottom(), api.OK}, {"or", plain(numbers), plain(both(one, two)), api.OK}, {"and", plain(list(closed(two))), plain(two), api.OK}, {"or", plain(list(closed(two))), plain(two), api.OK},
		// The defaults of the items are kept, the list is that of the default.
		{"or", plain(list(mixed)), marked(both(one, two, trial.Number(3)), both(one, trial.Number(3))), api.OK}, {"and", plain(list(api.ListCase{Items: []api.Val{mixed.Items[0], plain(ints)}})), mixed.Items[0], api.OK}, {"and", plain(list(api.ListCase{Items: []api.Val{mixed.Items[0], plain(two)}})), marked(two, bottom), api.OK},
		{"or", plain(list(api.ListCase{Items: []api.Val{marked(one, bottom), marked(two, bottom)}})), marked(both(one, two), bottom), api.OK},
		{"or", marked(top, numbers), plain(both(one, two)), api.OK}, {"and", marked(list(longer(ints)), list(closed(one))), plain(one), api.OK}, {"or", marked(both(numbers, one), numbers), plain(both(one, two)), api.OK}, {"or", marked(numbers, bottom), plain(both(one, two)), api.OK},
		{"len", marked(top, numbers), exactly(number(2)), api.OK}, {"sum", plain(list(mixed)), exactly(number(4)), api.OK}, {"max", marked(list(longer(ints)), numbers), exactly(number(2)), api.OK}, {"len", marked(ints, one), api.Val{}, api.ErrKind},
		// Lists that are none, or not alone.
		{"and", plain(list(longer(ints))), api.Val{}, api.ErrOpen}, {"or", plain(list(longer(ints, one))), api.Val{}, api.ErrOpen}, {"len", plain(list(longer(ints))), api.Val{}, api.ErrOpen}, {"and", value.Top(), api.Val{}, api.ErrOpen}, {"or", value.Top(), api.Val{}, api.ErrOpen}, {"keys", value.Top(), api.Val{}, api.ErrOpen},
		{"and", value.Bottom(), api.Val{}, api.ErrBottom}, {"or", value.Bottom(), api.Val{}, api.ErrBottom}, {"sort", value.Bottom(), api.Val{}, api.ErrBottom}, {"and", plain(both(numbers, one)), api.Val{}, api.ErrOpen}, {"or", plain(both(numbers, list(closed()))), api.Val{}, api.ErrOpen}, {"and", plain(both(one, record(open()))), api.Val{}, api.ErrKind},
		{"and", plain(both(numbers, record(open()))), api.Val{}, api.ErrOpen}, {"or", plain(ints), api.Val{}, api.ErrKind}, {"or", marked(both(numbers, one), one), api.Val{}, api.ErrKind},
		// Data that is not complete: the first problem counts, also one of a hidden field.
		{"keys", plain(record(open(trial.Required("a", one)))), api.Val{}, api.ErrAbsent}, {"keys", plain(record(open(present("a", ints)))), api.Val{}, api.ErrOpen}, {"len", plain(record(open(present("_a", ints)))), api.Val{}, api.ErrOpen}, {"values", plain(record(open(trial.Required("#a", one), present("b", ints)))), api.Val{}, api.ErrAbsent},
		{"keys", plain(record(open(present("a", one), present("b", two)))), exactly(items(text("a"), text("b"))), api.OK}, {"values", plain(record(shut(field(marked(ints, two))))), exactly(items(number(2))), api.OK}, {"sort", plain(list(closed(two, ints))), api.Val{}, api.ErrOpen}, {"len", plain(api.Value{Scalars: scalar.All()}), api.Val{}, api.ErrOpen},
		{"range", plain(ints), api.Val{}, api.ErrOpen}, {"range", marked(ints, two), exactly(items(number(0), number(1))), api.OK}, {"max", plain(list(closed(one, trial.Text("a"), ints))), api.Val{}, api.ErrOpen},
		{"close", value.Top(), value.Top(), api.OK}, {"close", value.Bottom(), value.Bottom(), api.OK}, {"close", marked(ints, one), marked(ints, one), api.OK}, {"close", plain(record(open(present("a", ints)))), plain(record(shut(present("a", ints)))), api.OK},
		{"close", marked(record(open(trial.Required("a", ints))), record(open(present("a", one)))), marked(record(shut(trial.Required("a", ints))), record(shut(present("a", one)))), api.OK},
	} {
		v, want := trial.Made(c.v), trial.Made(c.want)
		if got, e := builtin.Call(c.name, []api.Val{v}); !same(got, e, want, c.e) {
			t.Errorf("case %d, %s(%s): %s, %d, want %s, %d", i, c.name, trial.Show(v), trial.Show(got), e, trial.Show(want), c.e)
		}
	}
}

// TestOrder checks which of several errors is returned (P31.3).
func TestOrder(t *testing.T) {
	wrong, unsure, none, words := api.Val{V: one, D: two}, plain(ints), value.Bottom(), exactly(items(text("a")))
	for i, c := range []struct {
		name string
		args []api.Val
		e    api.Errno
	}{
		{"plus", []api.Val{wrong}, api.ErrName}, {"plus", nil, api.ErrName}, {"concat", []api.Val{wrong}, api.ErrSize}, {"len", []api.Val{wrong, wrong}, api.ErrSize}, {"close", []api.Val{wrong, unsure}, api.ErrSize},
		{"concat", []api.Val{wrong, unsure}, api.ErrKind}, {"concat", []api.Val{none, wrong}, api.ErrKind}, {"concat", []api.Val{unsure, wrong}, api.ErrKind},
		{"concat", []api.Val{none, unsure}, api.ErrBottom}, {"concat", []api.Val{unsure, none}, api.ErrOpen}, {"concat", []api.Val{plain(one), unsure}, api.ErrOpen}, {"concat", []api.Val{words, none}, api.ErrBottom}, {"concat", []api.Val{words, plain(one)}, api.ErrKind}, {"concat", []api.Val{plain(one), words}, api.ErrKind},
	} {
		if got, e := builtin.Call(c.name, c.args); !same(got, e, api.Val{}, c.e) {
			t.Errorf("case %d, %s: %s, %d, want error %d", i, c.name, trial.Show(got), e, c.e)
		}
	}
}

// TestWrong checks Vals that are not valid (P31.3).
func TestWrong(t *testing.T) {
	endless := list(closed(one))
	endless.Lists[0].Items[0].V = endless
	for i, v := range append(trial.Wrong(), plain(endless), marked(top, endless)) {
		for _, name := range names {
			l := [][]api.Val{{v}}
			if name == "concat" {
				l = [][]api.Val{{v, exactly(text("-"))}, {exactly(items()), v}, {v, v}}
			}
			for _, args := range l {
				if got, e := builtin.Call(name, args); !same(got, e, api.Val{}, api.ErrKind) {
					t.Errorf("wrong Val %d, %s: %d", i, name, e)
				}
			}
		}
		if _, e := builtin.Call("plus", []api.Val{v}); e != api.ErrName {
			t.Errorf("wrong Val %d, an unknown name: %d", i, e)
		}
	}
}

// call returns the data that a function returns for data.
func call(t *testing.T, name string, args ...api.Data) api.Data {
	t.Helper()
	v, e := builtin.Call(name, parts.Each(args, exactly))
	d, f := concrete.Data(v, true)
	if e != api.OK || f != api.OK {
		t.Fatalf("%s: %d, %d", name, e, f)
	}
	return d
}

// TestLaws checks what the results of several calls have in common (P31.4).
func TestLaws(t *testing.T) {
	x := trial.Random(312)
	changed, several := 0, 0
	for range 1500 {
		// and does not depend on the order.
		var c, turned api.ListCase
		for range x.Below(4) {
			c.Items = append(c.Items, trial.Made(trial.Val(&x, 2)))
		}
		turned.Items = slices.Clone(c.Items)
		slices.Reverse(turned.Items)
		if n := len(turned.Items); n > 2 {
			turned.Items[0], turned.Items[1] = turned.Items[1], turned.Items[0]
		}
		if v := plain(list(c)); refine.Valid(v) {
			a, e := builtin.Call("and", []api.Val{v})
			b, f := builtin.Call("and", []api.Val{plain(list(turned))})
			if e != api.OK || f != api.OK || !value.Equal(a, b) {
				t.Fatalf("and of %s: %s and %s", trial.Show(v), trial.Show(a), trial.Show(b))
			}
			if len(c.Items) > 1 {
				several++
			}
		}
		// sort returns the same items, and changes them once.
		var l []api.Data
		for range x.Below(6) {
			l = append(l, trial.Data(&x, 2))
		}
		once := call(t, "sort", items(l...))
		if !data.Equal(call(t, "sort", once), once) || !slices.IsSortedFunc(once.Items, data.Compare) {
			t.Fatal("sort")
		}
		for _, d := range l {
			same := func(o api.Data) bool { return data.Equal(o, d) }
			if len(slices.DeleteFunc(slices.Clone(l), same)) != len(slices.DeleteFunc(slices.Clone(once.Items), same)) || len(once.Items) != len(l) {
				t.Fatal("sort returns other items")
			}
		}
		if !data.Equal(once, items(l...)) {
			changed++
		}
		// A struct has as many keys as values.
		d := of()
		for _, s := range trial.Labels() {
			if x.Below(3) == 0 {
				d.Members = append(d.Members, member(s, trial.Data(&x, 2)))
			}
		}
		n := call(t, "len", d)
		if n.Num != int64(len(d.Members))*api.Unit || !data.Equal(call(t, "len", call(t, "keys", d)), n) || !data.Equal(call(t, "len", call(t, "values", d)), n) {
			t.Fatal("len")
		}
		// The sum of a list is that of its parts together.
		l = nil
		for range x.Below(6) {
			l = append(l, units(int64(x.Below(1000000)-500000)))
		}
		cut := x.Below(len(l) + 1)
		if !data.Equal(call(t, "sum", items(l...)), call(t, "sum", items(call(t, "sum", items(l[:cut]...)), call(t, "sum", items(l[cut:]...))))) {
			t.Fatal("sum")
		}
	}
	if changed < 500 || several < 250 {
		t.Errorf("%d lists are sorted, and %d times is and that of several items", changed, several)
	}
}

// TestLong checks long strings (P31.2, P31.3).
func TestLong(t *testing.T) {
	long := func(n int) api.Data { return text(strings.Repeat("a", n)) }
	for i, c := range []struct {
		list, between api.Data
		size          int // -1 for an error
	}{
		{items(long(api.MaxText)), long(1), api.MaxText}, {items(long(api.MaxText + 1)), long(0), -1}, {items(long(api.MaxText), text("")), long(0), api.MaxText}, {items(long(api.MaxText), text("")), long(1), -1},
		{items(long(api.MaxText-2), long(1)), long(1), api.MaxText}, {items(long(api.MaxText-2), long(1)), long(2), -1}, {items(text(""), text("")), long(api.MaxText), api.MaxText}, {items(text(""), text("")), long(api.MaxText + 1), -1},
		{items(long(5)), long(api.MaxText + 1), 5}, {items(), long(api.MaxText + 1), 0}, {items(long(api.MaxText/2), long(api.MaxText/2), long(1)), long(0), -1},
	} {
		got, e := builtin.Call("concat", []api.Val{exactly(c.list), exactly(c.between)})
		want, f := api.Val{}, api.ErrSize
		if c.size >= 0 {
			want, f = exactly(long(c.size)), api.OK
		}
		if !same(got, e, want, f) {
			t.Errorf("case %d: %d", i, e)
		}
	}
	// Other functions have no such limit.
	if d := call(t, "len", long(3*api.MaxText)); d.Num != 3*api.MaxText*api.Unit {
		t.Errorf("len: %d", d.Num)
	}
	if d := call(t, "keys", of(member(strings.Repeat("k", api.MaxText+1), number(1)))); len(d.Items) != 1 || len(d.Items[0].Str) != api.MaxText+1 {
		t.Error("keys")
	}
	// Strings that are too long together count only if their kinds are right.
	if _, e := builtin.Call("concat", parts.Each([]api.Data{items(long(api.MaxText), long(1), number(1)), text("")}, exactly)); e != api.ErrKind {
		t.Errorf("concat of another kind: %d", e)
	}
}

// TestMany checks long lists and structs with many members (P31.2).
func TestMany(t *testing.T) {
	const n = 3000
	var numbers, words, shuffled []api.Data
	var members []api.Member
	for i := range n {
		numbers = append(numbers, number(int64(i)))
		shuffled = append(shuffled, number(int64(i*1009%n)))
		words = append(words, text(strconv.Itoa(n+i)))
		members = append(members, member(words[i].Str, numbers[i]))
	}
	for name, c := range map[string][2]api.Data{
		"len": {of(members...), number(n)}, "sum": {items(numbers...), number(n * (n - 1) / 2)}, "max": {items(shuffled...), number(n - 1)}, "min": {items(shuffled...), number(0)}, "sort": {items(shuffled...), items(numbers...)}, "keys": {of(members...), items(words...)}, "values": {of(members...), items(numbers...)},
	} {
		if got := call(t, name, c[0]); !data.Equal(got, c[1]) {
			t.Errorf("%s of many", name)
		}
	}
	if got := call(t, "concat", items(words...), text("-")); len(got.Str) != 5*n-1 || !strings.HasPrefix(got.Str, "3000-3001-") {
		t.Errorf("concat of many: %d", len(got.Str))
	}
	each := list(closed(parts.Each(shuffled, func(d api.Data) api.Value { return exactly(d).V })...))
	some := api.Value{Scalars: api.Scalars{Nums: api.Nums{Ints: []api.Span{{Lo: 0, Hi: n - 1}}}}}
	if got, e := builtin.Call("or", []api.Val{plain(each)}); !same(got, e, plain(some), api.OK) {
		t.Errorf("or of many: %s, %d", trial.Show(got), e)
	}
	if got, e := builtin.Call("and", []api.Val{plain(each)}); !same(got, e, value.Bottom(), api.OK) {
		t.Errorf("and of many: %s, %d", trial.Show(got), e)
	}
}

// TestDeep checks data of the greatest depth (P31.2).
func TestDeep(t *testing.T) {
	deep := number(1)
	for range api.MaxDepth - 2 {
		deep = items(deep)
	}
	if got := call(t, "values", of(member("a", deep))); !data.Equal(got, items(deep)) || data.Depth(got) != api.MaxDepth {
		t.Error("values")
	}
	if got := call(t, "sort", items(deep, number(1))); !data.Equal(got, items(number(1), deep)) {
		t.Error("sort")
	}
	empty := of()
	for range api.MaxDepth - 3 {
		empty = items(empty)
	}
	if got := call(t, "values", of(member("a", empty))); !data.Equal(got, items(empty)) {
		t.Error("values with an empty struct")
	}
	v := exactly(deep)
	if got, e := builtin.Call("or", []api.Val{plain(list(closed(v.V)))}); !same(got, e, v, api.OK) {
		t.Errorf("or: %d", e)
	}
}
