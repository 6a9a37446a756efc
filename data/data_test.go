package data_test

import (
	"cmp"
	"math"
	"reflect"
	"slices"
	"strings"
	"testing"

	"configlang/api"
	"configlang/data"
)

// Data of each kind.
func null() api.Data              { return api.Data{Kind: api.Null} }
func boolean(n int64) api.Data    { return api.Data{Kind: api.Bool, Num: n} }
func number(u int64) api.Data     { return api.Data{Kind: api.Number, Num: u} }
func text(s string) api.Data      { return api.Data{Kind: api.String, Str: s} }
func list(l ...api.Data) api.Data { return api.Data{Kind: api.List, Items: l} }

// member returns a member of a struct.
func member(label string, d api.Data) api.Member { return api.Member{Label: label, Data: d} }

// object returns a struct with its members as they are given.
func object(l ...api.Member) api.Data { return api.Data{Kind: api.Struct, Members: l} }

// lists returns d inside n lists.
func lists(d api.Data, n int) api.Data {
	for range n {
		d = list(d)
	}
	return d
}

// structs returns d inside n structs.
func structs(d api.Data, n int) api.Data {
	for range n {
		d = object(member("a", d))
	}
	return d
}

// example returns the data of the chapter's example.
func example() api.Data {
	return object(member("a", number(10000)), member("b", list(null(), text("x"))))
}

// samples returns valid data in ascending order.
func samples() []api.Data {
	l := []api.Data{null(), boolean(0), boolean(1)}
	for _, u := range []int64{-api.MaxUnits, -10000, -1, 0, 1, 10000, 15000, api.MaxUnits} {
		l = append(l, number(u))
	}
	for _, s := range []string{"", "\x00", " ", "A", "B", "a", "a\x00", "aa", "b", "\x7f", "\xff"} {
		l = append(l, text(s))
	}
	l = append(l, list(), list(null()), list(null(), null()), list(null(), text("")), list(boolean(1)), list(number(-1)), list(number(2), number(1)), list(text("x")), list(text("x"), null()), list(list()), list(list(), null()), list(list(null())), list(object()),
		object(), object(member("", text("z"))), object(member("", text("z")), member("a", null())), object(member("A", null())), object(member("a", null())), object(member("a", null()), member("b", null())), object(member("a", null()), member("b", number(0))), object(member("a", null()), member("c", null())), object(member("a", boolean(0))), example(), object(member("a", text("x"))), object(member("a", list())), object(member("aa", null())), object(member("b", null())))
	return l
}

// invalid returns data that is not valid, with its error.
func invalid() map[api.Errno][]api.Data {
	bad := func(kind int) api.Data { return api.Data{Kind: kind} }
	full := func(kind int, clear func(d *api.Data)) api.Data {
		d := api.Data{Kind: kind, Num: 1, Str: "x", Items: []api.Data{null()}, Members: []api.Member{member("a", null())}}
		clear(&d)
		return d
	}
	others := []api.Data{
		{Kind: api.Null, Num: 1}, {Kind: api.Null, Str: "x"}, {Kind: api.Null, Items: []api.Data{null()}}, {Kind: api.Null, Members: []api.Member{{}}},
		full(api.Bool, func(d *api.Data) { d.Str, d.Items = "", nil }), full(api.Bool, func(d *api.Data) { d.Items, d.Members = nil, nil }), full(api.Bool, func(d *api.Data) { d.Str, d.Members = "", nil }),
		full(api.Number, func(d *api.Data) { d.Str, d.Items = "", nil }), full(api.Number, func(d *api.Data) { d.Items, d.Members = nil, nil }), full(api.Number, func(d *api.Data) { d.Str, d.Members = "", nil }),
		full(api.String, func(d *api.Data) { d.Num, d.Items = 0, nil }), full(api.String, func(d *api.Data) { d.Items, d.Members = nil, nil }), full(api.String, func(d *api.Data) { d.Num, d.Members = 0, nil }),
		full(api.List, func(d *api.Data) { d.Num, d.Str = 0, "" }), full(api.List, func(d *api.Data) { d.Members, d.Str = nil, "" }), full(api.List, func(d *api.Data) { d.Num, d.Members = 0, nil }),
		full(api.Struct, func(d *api.Data) { d.Num, d.Str = 0, "" }), full(api.Struct, func(d *api.Data) { d.Items, d.Str = nil, "" }), full(api.Struct, func(d *api.Data) { d.Num, d.Items = 0, nil }),
		{Kind: api.Bool, Num: 7, Str: "x"}, {Kind: api.String, Num: math.MaxInt64}, {Kind: api.List, Members: []api.Member{{}, {}}},
	}
	twice := object(member("a", null()), member("a", null()))
	return map[api.Errno][]api.Data{
		api.ErrKind:  append(others, bad(0), bad(7), bad(-1), list(null(), bad(0)), list(bad(9), number(math.MaxInt64)), object(member("a", bad(0)), member("b", boolean(2))), lists(bad(0), 15), list(bad(0), lists(null(), 15))),
		api.ErrRange: {boolean(2), boolean(-1), boolean(math.MinInt64), boolean(10000), number(api.MaxUnits + 1), number(-api.MaxUnits - 1), number(math.MaxInt64), number(math.MinInt64), list(number(0), boolean(3)), list(boolean(2), bad(0)), list(boolean(2), twice), structs(boolean(5), 15), list(boolean(2), lists(null(), 15))},
		api.ErrTwice: {twice, object(member("b", null()), member("a", null())), object(member("", null()), member("", null())), object(member("a", null()), member("b", null()), member("b", bad(0))), object(member("b", boolean(2)), member("a", bad(0))), object(member("b", lists(null(), 15)), member("a", null())), lists(twice, 15), object(member("a", null()), member("", null())), object(member("a", null()), member("B", null()))},
		api.ErrDepth: {lists(null(), 16), structs(null(), 16), lists(list(), 16), lists(bad(0), 16), lists(boolean(2), 16), lists(twice, 16), list(null(), lists(null(), 15), bad(0)), object(member("a", structs(null(), 15)), member("b", bad(0))), lists(null(), 5000)},
	}
}

// TestCheck checks valid and invalid data, and which error comes first (P9.1).
func TestCheck(t *testing.T) {
	for _, d := range append(samples(), lists(null(), 15), structs(number(1), 15), lists(list(), 15), list([]api.Data{}...), api.Data{Kind: api.Null, Items: []api.Data{}, Members: []api.Member{}}) {
		if e := data.Check(d); e != api.OK {
			t.Errorf("Check(%v): %d", d, e)
		}
	}
	for want, l := range invalid() {
		for _, d := range l {
			if e := data.Check(d); e != want {
				t.Errorf("Check(%.200v): %d, want %d", d, e, want)
			}
		}
	}
}

// TestSize checks the numbers of levels and of parts (P9.1).
func TestSize(t *testing.T) {
	for _, c := range []struct {
		d           api.Data
		depth, size int
	}{
		{null(), 1, 1}, {text("abc"), 1, 1}, {list(), 1, 1}, {object(), 1, 1}, {list(null(), null()), 2, 3}, {example(), 3, 5}, {lists(null(), 15), 16, 16}, {structs(list(), 15), 16, 16},
		{list(lists(null(), 2), null(), object(member("a", null()))), 4, 7}, {object(member("a", list()), member("b", lists(null(), 3)), member("c", null())), 5, 7},
	} {
		if data.Depth(c.d) != c.depth || data.Size(c.d) != c.size {
			t.Errorf("%v: depth %d, size %d", c.d, data.Depth(c.d), data.Size(c.d))
		}
	}
}

// TestInvalid checks what the functions return for data that is not valid (P9.1 to P9.4).
func TestInvalid(t *testing.T) {
	for e, l := range invalid() {
		for _, d := range l {
			if data.Depth(d) != 0 || data.Size(d) != 0 || len(data.Leaves(d)) != 0 || data.Equal(d, d) || data.Equal(null(), d) || data.Equal(d, null()) || data.Compare(d, null()) != 0 || data.Compare(null(), d) != 0 || data.Compare(d, object(member("z", null()))) != 0 {
				t.Errorf("a result for %.200v", d)
			}
			if s, got := data.Text(d); s != "" || got != e {
				t.Errorf("Text(%.200v): %s, %d, want %d", d, s, got, e)
			}
			for _, path := range [][]api.Step{nil, {{Index: 0}}, {{Label: "a"}}} {
				if x, ok := data.Get(d, path); ok || !reflect.DeepEqual(x, api.Data{}) {
					t.Errorf("Get(%.200v, %v): %v", d, path, x)
				}
			}
		}
	}
}

// TestMake checks that members are sorted, and that what is not used becomes zero (P9.1).
func TestMake(t *testing.T) {
	junk := api.Data{Num: 9, Str: "x", Items: []api.Data{{Kind: 9}}, Members: []api.Member{{Label: "b"}, {Label: "a"}}}
	with := func(kind int, num int64, str string, items []api.Data, members []api.Member) api.Data {
		d := api.Data{Kind: kind, Num: junk.Num, Str: junk.Str, Items: junk.Items, Members: junk.Members}
		switch kind {
		case api.Bool, api.Number:
			d.Num = num
		case api.String:
			d.Str = str
		case api.List:
			d.Items = items
		case api.Struct:
			d.Members = members
		}
		return d
	}
	b, a := member("b", list(object(member("d", null()), member("c", null())))), member("a", with(api.Null, 0, "", nil, nil))
	for _, c := range []struct{ d, want api.Data }{
		{with(api.Null, 0, "", nil, nil), null()}, {with(api.Bool, 1, "", nil, nil), boolean(1)}, {with(api.Number, -5, "", nil, nil), number(-5)}, {with(api.String, 0, "s", nil, nil), text("s")},
		{with(api.List, 0, "", []api.Data{with(api.Null, 0, "", nil, nil), number(1)}, nil), list(null(), number(1))},
		{with(api.Struct, 0, "", nil, []api.Member{b, a}), object(member("a", null()), member("b", list(object(member("c", null()), member("d", null())))))},
		{object(member("c", null()), member("", boolean(1)), member("b", null())), object(member("", boolean(1)), member("b", null()), member("c", null()))},
		{lists(object(member("b", null()), member("a", null())), 14), lists(object(member("a", null()), member("b", null())), 14)},
	} {
		if got, e := data.Make(c.d); e != api.OK || !reflect.DeepEqual(got, c.want) || data.Check(got) != api.OK {
			t.Errorf("Make(%v): %v, %d, want %v", c.d, got, e, c.want)
		}
	}
	for _, d := range samples() {
		if got, e := data.Make(d); e != api.OK || !data.Equal(got, d) {
			t.Errorf("Make(%v): %v, %d", d, got, e)
		}
	}
}

// TestMakeErrors checks that Make returns the error of its result (P9.1).
func TestMakeErrors(t *testing.T) {
	bad := api.Data{Kind: 8, Num: 3}
	for _, c := range []struct {
		d api.Data
		e api.Errno
	}{
		{api.Data{}, api.ErrKind}, {bad, api.ErrKind}, {list(bad, boolean(2)), api.ErrKind}, {boolean(2), api.ErrRange}, {number(math.MinInt64), api.ErrRange}, {list(boolean(2), bad), api.ErrRange},
		{object(member("a", null()), member("a", null())), api.ErrTwice}, {object(member("b", null()), member("a", bad), member("b", null())), api.ErrTwice},
		{object(member("b", bad), member("a", boolean(2))), api.ErrRange}, {object(member("b", boolean(2)), member("a", bad)), api.ErrKind}, {object(member("b", lists(null(), 15)), member("a", bad)), api.ErrKind}, {object(member("b", bad), member("a", lists(null(), 15))), api.ErrDepth},
		{lists(null(), 16), api.ErrDepth}, {lists(bad, 16), api.ErrDepth}, {structs(null(), 30000), api.ErrDepth},
	} {
		if got, e := data.Make(c.d); e != c.e || !reflect.DeepEqual(got, api.Data{}) {
			t.Errorf("Make(%.200v): %v, %d, want %d", c.d, got, e, c.e)
		}
	}
}

// TestCompare checks the order of data of all kinds (P9.2, P9.5).
func TestCompare(t *testing.T) {
	l, same := samples(), samples()
	for i, a := range l {
		for j, b := range same {
			if data.Compare(a, b) != cmp.Compare(i, j) || data.Equal(a, b) != (i == j) {
				t.Errorf("Compare(%v, %v): %d, Equal %v, want %d", a, b, data.Compare(a, b), data.Equal(a, b), cmp.Compare(i, j))
			}
		}
	}
}

// TestText checks the text of each kind (P9.4).
func TestText(t *testing.T) {
	for _, c := range []struct {
		d    api.Data
		want string
	}{
		{null(), "null"}, {boolean(0), "false"}, {boolean(1), "true"}, {number(-15000), "-1.5"}, {number(0), "0"}, {text("a\n\"\xff"), `"a\n\"\xff"`}, {text(""), `""`},
		{list(), "[]"}, {object(), "{}"}, {list(number(10000)), "[1]"}, {list(null(), list(text("]"), list())), `[null, ["]", []]]`}, {example(), `{a: 1, b: [null, "x"]}`},
		{object(member("", null()), member("#d", object()), member("_a", null()), member("a-b", boolean(1)), member("int", object(member("b", null())))), `{"": null, #d: {}, _a: null, "a-b": true, "int": {b: null}}`},
	} {
		if got, e := data.Text(c.d); got != c.want || e != api.OK {
			t.Errorf("Text(%v): %s, %d, want %s", c.d, got, e, c.want)
		}
	}
	seen := map[string]bool{}
	for _, d := range samples() {
		s, e := data.Text(d)
		if e != api.OK || seen[s] {
			t.Errorf("Text(%v): %s, %d", d, s, e)
		}
		seen[s] = true
	}
}

// TestGet checks where steps lead (P9.3).
func TestGet(t *testing.T) {
	label := func(s string) api.Step { return api.Step{Label: s} }
	at := func(i int) api.Step { return api.Step{Index: i} }
	d := object(member("", number(1)), member("a", list(number(2), object(member("x", number(3)), member("y", list())))), member("b", null()))
	for _, c := range []struct {
		path []api.Step
		want api.Data
	}{
		{nil, d}, {[]api.Step{label("b")}, null()}, {[]api.Step{label("a"), at(0)}, number(2)}, {[]api.Step{label("a"), at(1), label("x")}, number(3)}, {[]api.Step{label("a"), at(1), label("y")}, list()},
		{[]api.Step{{Label: "a", Index: 5}, at(0)}, number(2)}, {[]api.Step{{Label: "b", Index: -1}}, null()},
	} {
		if got, ok := data.Get(d, c.path); !ok || !data.Equal(got, c.want) {
			t.Errorf("Get(%v): %v, %v, want %v", c.path, got, ok, c.want)
		}
	}
	deepest := lists(number(7), 15)
	if got, ok := data.Get(deepest, nil); !ok || !data.Equal(got, deepest) {
		t.Errorf("the whole of 16 levels: %v, %v", got, ok)
	}
	if got, ok := data.Get(deepest, make([]api.Step, 15)); !ok || !data.Equal(got, number(7)) {
		t.Errorf("the last of 16 levels: %v, %v", got, ok)
	}
	for _, path := range [][]api.Step{{label("c")}, {label("")}, {at(0)}, {at(-1)}, {label("a"), at(2)}, {label("a"), at(-1)}, {label("a"), at(math.MaxInt)}, {label("a"), at(math.MinInt)}, {label("a"), label("x")}, {label("a"), {Label: "0", Index: 0}}, {label("b"), at(0)}, {label("b"), label("b")}, {label("a"), at(0), at(0)}, {label("a"), at(1), label("x"), label("x")}, {label("a"), at(1), at(0)}, {label("A")}} {
		if got, ok := data.Get(d, path); ok || !reflect.DeepEqual(got, api.Data{}) {
			t.Errorf("Get(%v): %v, %v", path, got, ok)
		}
	}
}

// TestLeaves checks the steps to leaves, and that Get finds them (P9.3, P9.5).
func TestLeaves(t *testing.T) {
	label := func(s string) api.Step { return api.Step{Label: s} }
	at := func(i int) api.Step { return api.Step{Index: i} }
	for _, c := range []struct {
		d    api.Data
		want [][]api.Step
	}{
		{null(), [][]api.Step{{}}}, {list(), [][]api.Step{{}}}, {object(), [][]api.Step{{}}}, {list(null(), list()), [][]api.Step{{at(0)}, {at(1)}}},
		{example(), [][]api.Step{{label("a")}, {label("b"), at(0)}, {label("b"), at(1)}}},
		{object(member("", list(null(), number(1))), member("a", object(member("b", object()), member("c", list(list(null()))))), member("d", null())), [][]api.Step{{label(""), at(0)}, {label(""), at(1)}, {label("a"), label("b")}, {label("a"), label("c"), at(0), at(0)}, {label("d")}}},
	} {
		got := data.Leaves(c.d)
		if !slices.EqualFunc(got, c.want, slices.Equal[[]api.Step]) {
			t.Errorf("Leaves(%v): %v, want %v", c.d, got, c.want)
		}
	}
	for _, d := range samples() {
		s, _ := data.Text(d)
		for _, path := range data.Leaves(d) {
			leaf, ok := data.Get(d, path)
			if !strings.Contains(s, `"":`) && (!ok || len(leaf.Items) > 0 || len(leaf.Members) > 0) {
				t.Errorf("the leaf %v of %s: %v, %v", path, s, leaf, ok)
			}
		}
	}
	// Appending to a path must not change the next one.
	l := data.Leaves(example())
	_ = append(l[1], label("z"))
	_ = append(l[0], label("z"))
	if !slices.Equal(l[2], []api.Step{label("b"), at(1)}) || !slices.Equal(l[1], []api.Step{label("b"), at(0)}) {
		t.Errorf("paths share memory: %v", l)
	}
}

// TestMemory checks that results share no memory with arguments, and that arguments are not changed.
func TestMemory(t *testing.T) {
	unsorted := func() api.Data {
		return object(member("b", list(object(member("d", null()), member("c", list(null()))))), member("a", null()))
	}
	d := unsorted()
	made, _ := data.Make(d)
	if !reflect.DeepEqual(d, unsorted()) {
		t.Error("Make changes its argument")
	}
	part, _ := data.Get(made, []api.Step{{Label: "b"}, {}})
	whole, _ := data.Get(made, nil)
	part.Members[0].Data.Items[0] = number(7)
	part.Members[1].Label = "z"
	whole.Members[0].Label = "y"
	whole.Members[1].Data.Items[0].Members[0].Label = "x"
	if s, _ := data.Text(made); s != "{a: null, b: [{c: [null], d: null}]}" {
		t.Errorf("Get shares memory with its argument: %s", s)
	}
	made.Members[1].Data.Items[0].Members[0].Data.Items[0] = number(8)
	made.Members[1].Data.Items[0].Members[1].Label = "w"
	if !reflect.DeepEqual(d, unsorted()) {
		t.Error("Make shares memory with its argument")
	}
}
