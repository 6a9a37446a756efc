package share_test

import (
	"slices"
	"strconv"
	"testing"

	"configlang/api"
	"configlang/parts"
	"configlang/refine"
	"configlang/share"
	"configlang/trial"
	"configlang/value"
)

// Values of the tests below.
var (
	one    = trial.Number(1)
	two    = trial.Number(2)
	ints   = trial.Kind("int")
	top    = value.Top().V
	bottom = api.Value{}
	list   = trial.List
	record = trial.Record
)

// within returns the Vals of the cases of a Val, in order.
func within(v api.Val) []api.Val {
	var l []api.Val
	for _, u := range []api.Value{v.V, v.D} {
		for _, c := range u.Lists {
			l = append(l, slices.Concat(c.Items, c.Rest)...)
		}
		for _, c := range u.Structs {
			for _, f := range c.Fields {
				l = append(l, f.Val)
			}
			for _, k := range c.Classes {
				l = append(l, k.Val)
			}
		}
	}
	return l
}

// partsOf is the definition of the parts of a valid Val.
func partsOf(v api.Val) []api.Val {
	var l []api.Val
	for _, u := range within(v) {
		l = with(l, partsOf(u)...)
	}
	return with(l, v)
}

// with adds those of some Vals to a list that it does not have.
func with(l []api.Val, vals ...api.Val) []api.Val {
	for _, v := range vals {
		if indexOf(l, v) < 0 {
			l = append(l, v)
		}
	}
	return l
}

// indexOf returns the index of a Val in a list, or -1.
func indexOf(l []api.Val, v api.Val) int {
	return slices.IndexFunc(l, func(u api.Val) bool { return parts.SameVal(u, v) })
}

// isValid is the definition of valid pools.
func isValid(l []api.Val) bool {
	for i, v := range l {
		if !refine.Valid(v) || indexOf(l[:i], v) >= 0 {
			return false
		}
		all := partsOf(v)
		for _, u := range all[:len(all)-1] {
			if indexOf(l[:i], u) < 0 {
				return false
			}
		}
	}
	return true
}

// same reports whether two lists of Vals are equal.
func same(l, m []api.Val) bool {
	return slices.EqualFunc(l, m, parts.SameVal)
}

// shown returns a text of Vals.
func shown(l []api.Val) string {
	s := ""
	for i, v := range l {
		s += "\n" + strconv.Itoa(i) + ": " + trial.Show(v)
	}
	return s
}

// pool returns the pool of the parts of some valid Vals.
func pool(t *testing.T, l ...api.Val) share.Pool {
	t.Helper()
	p := share.Pool{}
	for _, v := range l {
		q, _, e := share.Put(p, v)
		if e != api.OK {
			t.Fatalf("Put(%s): %d", trial.Show(v), e)
		}
		p = q
	}
	return p
}

// some returns a random valid Val, often one with equal parts.
func some(x *trial.Random) api.Val {
	v := trial.Valid(x, 2+x.Below(2))
	switch x.Below(4) {
	case 0:
		return trial.Made(value.Plain(list(trial.Closed(v.V, v.D, v.V))))
	case 1:
		return trial.Made(value.Plain(record(trial.Open(trial.Present("a", v.V), api.Field{Label: "b", Presence: api.Required, Val: v}, trial.Present("c", v.V)))))
	}
	return v
}

// TestParts compares Parts and Put with their definitions (P22.1, P22.2, P22.4).
func TestParts(t *testing.T) {
	x := trial.Random(221)
	several := 0
	for range 1500 {
		v, w := some(&x), some(&x)
		before := parts.CopyVal(v)
		want := partsOf(v)
		if got := share.Parts(v); !same(got, want) {
			t.Fatalf("Parts(%s):%s\nwant%s", trial.Show(v), shown(got), shown(want))
		}
		p, i, e := share.Put(share.Pool{}, v)
		if e != api.OK || i != len(want)-1 || !same(p.Vals, want) || !share.Valid(p) {
			t.Fatalf("Put(%s): %d, %d, %s", trial.Show(v), i, e, shown(p.Vals))
		}
		if again, j, e := share.Put(p, v); e != api.OK || j != i || !same(again.Vals, p.Vals) {
			t.Fatalf("Put(%s) twice: %d, %d, %s", trial.Show(v), j, e, shown(again.Vals))
		}
		all := with(slices.Clone(want), partsOf(w)...)
		q, j, e := share.Put(p, w)
		if e != api.OK || j != indexOf(all, w) || !same(q.Vals, all) || !share.Valid(q) {
			t.Fatalf("Put(%s):%s\n%s", trial.Show(w), shown(p.Vals), shown(q.Vals))
		}
		if !parts.SameVal(v, before) || !same(p.Vals, want) {
			t.Fatalf("%s is changed, or %s", trial.Show(before), shown(want))
		}
		if len(want) > 3 {
			several++
		}
	}
	if several < 300 {
		t.Errorf("%d Vals have several parts", several)
	}
}

// TestOrder checks the order of parts (P22.1).
func TestOrder(t *testing.T) {
	plain := value.Plain
	numbers := func(l ...int64) []api.Val {
		var vals []api.Val
		for _, n := range l {
			vals = append(vals, plain(trial.Number(n)))
		}
		return vals
	}
	first := api.Value{
		Lists:   []api.ListCase{trial.Longer(trial.Number(3), trial.Number(1), trial.Number(2))},
		Structs: []api.StructCase{trial.Fields(plain(trial.Number(6)), trial.Present("a", trial.Number(5)), trial.Required("b", trial.Number(4)))},
	}
	low := api.Value{Lists: []api.ListCase{trial.Closed(trial.Number(1), trial.Number(2))}, Structs: []api.StructCase{trial.Shut(trial.Present("a", trial.Number(5)), trial.Present("b", trial.Number(4)))}}
	inner := plain(list(trial.Closed(one)))
	for i, c := range []struct {
		v    api.Val
		want []api.Val // without the Val itself
	}{
		{value.Top(), nil}, {value.Bottom(), nil}, {trial.Marked(ints, one), nil}, {plain(list(trial.Closed())), nil},
		{plain(record(trial.Open(trial.Present("a", one), trial.Present("b", one)))), []api.Val{plain(one), value.Top()}}, // example 1
		{plain(first), numbers(1, 2, 3, 5, 4, 6)},
		{trial.Marked(first, low), append(numbers(1, 2, 3, 5, 4, 6), value.Bottom())},
		{trial.Marked(first, bottom), numbers(1, 2, 3, 5, 4, 6)},
		{plain(list(trial.Closed(inner.V, one))), []api.Val{plain(one), inner}},
		{plain(list(trial.Closed(one, inner.V, inner.V))), []api.Val{plain(one), inner}},
		{plain(list(api.ListCase{Items: []api.Val{trial.Marked(ints, one), trial.Marked(ints, bottom), plain(ints)}})), []api.Val{trial.Marked(ints, one), trial.Marked(ints, bottom), plain(ints)}},
		{plain(list(trial.Closed(two), trial.Closed(ints, one))), append(numbers(2), plain(ints), plain(one))},
	} {
		v := trial.Made(c.v)
		if want := append(slices.Clone(c.want), v); !same(share.Parts(v), want) {
			t.Errorf("case %d:%s\nwant%s", i, shown(share.Parts(v)), shown(want))
		}
	}
}

// TestFind checks Find and Get of all Vals, and of others (P22.3, P22.4).
func TestFind(t *testing.T) {
	x := trial.Random(222)
	for range 500 {
		v, w := some(&x), some(&x)
		p := pool(t, v)
		for i, u := range p.Vals {
			if got, e := share.Get(p, i); e != api.OK || !parts.SameVal(got, u) {
				t.Fatalf("Get(%d): %s, %d, want %s", i, trial.Show(got), e, trial.Show(u))
			}
			if j, ok := share.Find(p, u); j != i || !ok {
				t.Fatalf("Find(%s): %d, %v, want %d", trial.Show(u), j, ok, i)
			}
		}
		want := indexOf(p.Vals, w)
		if j, ok := share.Find(p, w); j != want || ok != (want >= 0) {
			t.Fatalf("Find(%s): %d, %v, want %d", trial.Show(w), j, ok, want)
		}
		for _, i := range []int{-1, len(p.Vals), -1 << 63, 1<<63 - 1} {
			if got, e := share.Get(p, i); e != api.ErrRange || !parts.SameVal(got, api.Val{}) {
				t.Fatalf("Get(%d): %s, %d", i, trial.Show(got), e)
			}
		}
	}
	if _, e := share.Get(share.Pool{}, 0); e != api.ErrRange {
		t.Errorf("Get of an empty pool: %d", e)
	}
	if i, ok := share.Find(share.Pool{}, value.Top()); i != -1 || ok {
		t.Errorf("Find in an empty pool: %d", i)
	}
	// The list of 1 and 2 is not there, though its parts are.
	p := pool(t, value.Plain(list(trial.Closed(one))), value.Plain(list(trial.Closed(two))))
	if i, ok := share.Find(p, value.Plain(list(trial.Closed(one, two)))); i != -1 || ok {
		t.Errorf("Find of a list: %d", i)
	}
}

// TestValid compares Valid with its definition (P22.1).
func TestValid(t *testing.T) {
	x := trial.Random(223)
	yes, no := 0, 0
	for range 3000 {
		l := pool(t, some(&x), some(&x)).Vals
		if i, j := x.Below(len(l)), x.Below(len(l)); x.Below(3) > 0 {
			switch x.Below(5) {
			case 0:
				l[i], l[j] = l[j], l[i]
			case 1:
				l = slices.Delete(l, i, i+1)
			case 2:
				l = slices.Insert(l, i, parts.CopyVal(l[j]))
			case 3:
				l = l[:i]
			default:
				l[i] = trial.Pick(&x, some(&x), trial.Val(&x, 2))
			}
		}
		want := isValid(l)
		if share.Valid(share.Pool{Vals: l}) != want {
			t.Fatalf("Valid: %v%s", !want, shown(l))
		}
		if want {
			yes++
		} else {
			no++
		}
	}
	if yes < 500 || no < 500 {
		t.Errorf("%d pools are valid, %d are not", yes, no)
	}
	if !share.Valid(share.Pool{}) || !share.Valid(share.Pool{Vals: []api.Val{}}) {
		t.Error("the empty pool")
	}
}

// wrongPools returns pools that are not valid, each for one reason.
func wrongPools() []share.Pool {
	plain := value.Plain
	outer := plain(list(trial.Closed(one, two)))
	l := []share.Pool{
		{Vals: []api.Val{plain(one), plain(one)}}, {Vals: []api.Val{value.Top(), plain(one), value.Top()}},
		{Vals: []api.Val{outer}}, {Vals: []api.Val{plain(one), outer}}, {Vals: []api.Val{plain(one), outer, plain(two)}}, {Vals: []api.Val{outer, plain(one), plain(two)}},
		{Vals: []api.Val{plain(one), plain(two), outer, outer}},
		{Vals: []api.Val{plain(one), plain(record(trial.Open(trial.Present("a", one))))}},                                 // without Top
		{Vals: []api.Val{plain(one), trial.Marked(list(trial.Longer(ints)), list(trial.Closed(one)))}},                    // without int
		{Vals: []api.Val{plain(ints), trial.Marked(list(trial.Longer(ints)), list(trial.Closed(one)))}},                   // without 1
		{Vals: []api.Val{plain(one), plain(list(trial.Closed(one))), plain(list(trial.Closed(list(trial.Longer(one)))))}}, // without the inner list
	}
	for _, v := range trial.Wrong() {
		l = append(l, share.Pool{Vals: []api.Val{v}}, share.Pool{Vals: []api.Val{plain(one), v}})
	}
	return l
}

// TestInvalid checks pools and Vals that are not valid (P22.1 to P22.3).
func TestInvalid(t *testing.T) {
	good := pool(t, value.Plain(list(trial.Closed(one))))
	for i, p := range wrongPools() {
		if share.Valid(p) || isValid(p.Vals) {
			t.Errorf("pool %d is not valid", i)
		}
		if q, j, e := share.Put(p, value.Plain(one)); e != api.ErrKind || j != 0 || len(q.Vals) > 0 {
			t.Errorf("Put into pool %d: %d, %d", i, j, e)
		}
		for _, n := range []int{0, -1, 100} {
			if v, e := share.Get(p, n); e != api.ErrKind || !parts.SameVal(v, api.Val{}) {
				t.Errorf("Get from pool %d: %d", i, e)
			}
		}
		for _, v := range append(p.Vals, value.Top()) {
			if j, ok := share.Find(p, v); j != -1 || ok {
				t.Errorf("Find in pool %d: %d", i, j)
			}
		}
		for _, l := range [][2]share.Pool{{p, good}, {good, p}, {p, p}, {p, {}}, {{}, p}} {
			if q, indices, e := share.Merge(l[0], l[1]); e != api.ErrKind || len(indices) > 0 || len(q.Vals) > 0 {
				t.Errorf("Merge of pool %d: %d", i, e)
			}
		}
	}
	for i, v := range trial.Wrong() {
		if len(share.Parts(v)) > 0 {
			t.Errorf("Parts of wrong Val %d", i)
		}
		for _, p := range []share.Pool{{}, good} {
			if q, j, e := share.Put(p, v); e != api.ErrKind || j != 0 || len(q.Vals) > 0 {
				t.Errorf("Put of wrong Val %d: %d, %d", i, j, e)
			}
			if j, ok := share.Find(p, v); j != -1 || ok {
				t.Errorf("Find of wrong Val %d: %d", i, j)
			}
		}
	}
}

// TestMerge compares Merge with Put of all Vals (P22.3).
func TestMerge(t *testing.T) {
	x := trial.Random(224)
	for range 500 {
		v := some(&x)
		p, q := pool(t, some(&x), v), pool(t, some(&x), trial.Pick(&x, v, some(&x)))
		before := slices.Clone(p.Vals)
		got, indices, e := share.Merge(p, q)
		want := with(slices.Clone(p.Vals), q.Vals...)
		if e != api.OK || !same(got.Vals, want) || len(indices) != len(q.Vals) || !share.Valid(got) {
			t.Fatalf("Merge: %d, %v%s\nwant%s", e, indices, shown(got.Vals), shown(want))
		}
		step := p
		for i, u := range q.Vals {
			next, j, e := share.Put(step, u)
			if e != api.OK || indices[i] != j || !parts.SameVal(got.Vals[j], u) {
				t.Fatalf("Merge: index %d of%s", i, shown(q.Vals))
			}
			step = next
		}
		if !same(step.Vals, got.Vals) || !same(p.Vals, before) {
			t.Fatalf("Merge:%s\nPut:%s", shown(got.Vals), shown(step.Vals))
		}
	}
	p := pool(t, value.Plain(list(trial.Closed(one))))
	for i, l := range [][2]share.Pool{{p, {}}, {{}, p}, {p, p}} {
		got, indices, e := share.Merge(l[0], l[1])
		if e != api.OK || !same(got.Vals, p.Vals) || len(indices) != len(l[1].Vals) {
			t.Errorf("Merge %d: %d, %v", i, e, indices)
		}
	}
}

// strs returns the value of the strings that an expression matches.
func strs(text string) api.Value {
	return api.Value{Scalars: api.Scalars{Strs: trial.Strs(text)}}
}

// TestText checks that Vals that differ in one part are different (P22.1, P22.4).
func TestText(t *testing.T) {
	plain := value.Plain
	vals := []api.Val{value.Top(), value.Bottom(), trial.Marked(top, bottom), trial.Marked(ints, one), trial.Marked(ints, two), trial.Marked(ints, bottom)}
	a := value.Plain(one)
	for _, v := range []api.Value{
		one, two, ints, trial.Text("a"), trial.Text("b"), trial.Text("ab"), trial.Text(""), trial.Kind("null"), trial.Kind("bool"), trial.Kind("number"), trial.Kind("string"),
		{Scalars: api.Scalars{False: true}}, {Scalars: api.Scalars{True: true}}, {Scalars: api.Scalars{Nums: api.Nums{Fracs: []api.Span{{Lo: 5000, Hi: 5000}}}}},
		{Scalars: api.Scalars{Nums: api.Nums{Ints: []api.Span{{Lo: 1, Hi: 5}}}}}, {Scalars: api.Scalars{Nums: api.Nums{Ints: []api.Span{{Lo: 2, Hi: 5}}}}}, {Scalars: api.Scalars{Nums: api.Nums{Ints: []api.Span{{Lo: 1, Hi: 6}}}}}, {Scalars: api.Scalars{Nums: api.Nums{Ints: []api.Span{{Lo: 1, Hi: 1}, {Lo: 5, Hi: 5}}}}},
		strs("[a-c]"), strs("[b-c]"), strs("[a-d]"), strs("(aa)*"), strs("a(aa)*"), strs("aa*"),
		list(), list(trial.Closed()), list(trial.Longer(one)), list(trial.Closed(one)), list(trial.Longer(one, one)), list(trial.Closed(one, one)), list(trial.Closed(one), trial.Closed(one, one)), list(trial.Closed(list(trial.Closed(one)))),
		record(trial.Open()), record(trial.Shut()), record(trial.Fields(a)), record(trial.Open(trial.Present("a", one))), record(trial.Open(trial.Required("a", one))), record(trial.Open(trial.Present("", one))), record(trial.Open(trial.Present("1 ", one))),
		record(trial.Open(trial.Present("a", one), trial.Present("b", one))), record(trial.Open(trial.Present("a", one)), trial.Open(trial.Present("b", one))),
		record(api.StructCase{Classes: []api.Class{trial.Others(a, "a"), {Set: trial.Strs("a")}}}), record(api.StructCase{Classes: []api.Class{trial.Others(a, "b"), {Set: trial.Strs("b")}}}),
	} {
		vals = append(vals, plain(v), plain(list(trial.Longer(v, v, v))), trial.Marked(top, v), plain(list(api.ListCase{Rest: []api.Val{trial.Marked(top, v)}})))
	}
	found := map[int]int{}
	p := pool(t)
	var made []api.Val
	for _, v := range vals {
		if v = trial.Made(v); indexOf(made, v) < 0 {
			made = append(made, v)
		}
	}
	for n, v := range made {
		q, i, e := share.Put(p, v)
		if m, twice := found[i]; e != api.OK || twice {
			t.Fatalf("%s and %s have the same index", trial.Show(made[m]), trial.Show(v))
		}
		found[i] = n
		p = q
	}
	for n, v := range made {
		if i, ok := share.Find(p, v); !ok || found[i] != n {
			t.Errorf("Find(%s): %d", trial.Show(v), i)
		}
	}
}

// TestMemory checks that results share no memory with arguments, nor their parts with each other (P22.1 to P22.3).
func TestMemory(t *testing.T) {
	x := trial.Random(225)
	for range 500 {
		v, w := parts.CopyVal(some(&x)), parts.CopyVal(some(&x))
		p, _, _ := share.Put(share.Pool{}, v)
		q, _, _ := share.Put(p, w)
		r, _, _ := share.Merge(q, p)
		got, _ := share.Get(p, 0)
		if trial.Shares(slices.Concat([]api.Val{v, w, got}, p.Vals, q.Vals, r.Vals, share.Parts(v))...) {
			t.Fatalf("%s, %s", trial.Show(v), trial.Show(w))
		}
		m := trial.Memory{}
		trial.Note(m, p.Vals)
		trial.Note(m, q.Vals)
		trial.Note(m, r.Vals)
		if m.Twice() {
			t.Fatal("pools share memory")
		}
	}
}

// TestDeep checks Vals of the greatest depth, and such that contain themselves (P22.1 to P22.3).
func TestDeep(t *testing.T) {
	for _, marked := range []bool{false, true} {
		v := one
		for range api.MaxDepth - 1 {
			d := v
			if marked {
				d = bottom
			}
			v = list(api.ListCase{Items: []api.Val{trial.Marked(v, d)}})
		}
		l := share.Parts(value.Plain(v))
		if len(l) != api.MaxDepth || !share.Valid(share.Pool{Vals: l}) {
			t.Errorf("%d parts", len(l))
		}
		p, indices, e := share.Merge(share.Pool{Vals: l}, share.Pool{Vals: l})
		if e != api.OK || len(p.Vals) != len(l) || len(indices) != len(l) {
			t.Errorf("Merge: %d", e)
		}
		deeper := value.Plain(list(trial.Closed(v)))
		if _, _, e := share.Put(p, deeper); e != api.ErrKind || len(share.Parts(deeper)) > 0 {
			t.Errorf("a Val that is too deep: %d", e)
		}
	}
	u := list(api.ListCase{Items: []api.Val{value.Plain(one)}})
	u.Lists[0].Items[0].V = u
	endless := value.Plain(u)
	_, _, e := share.Put(share.Pool{}, endless)
	_, ok := share.Find(share.Pool{}, endless)
	if e != api.ErrKind || ok || share.Valid(share.Pool{Vals: []api.Val{endless}}) || len(share.Parts(endless)) > 0 {
		t.Error("a Val that contains itself")
	}
}

// TestMany checks a Val with many parts (P22.1 to P22.3).
func TestMany(t *testing.T) {
	var items []api.Value
	for i := range 3000 {
		items = append(items, trial.Number(int64(i%1000)))
	}
	p := pool(t, value.Plain(list(trial.Closed(items...))))
	if len(p.Vals) != 1001 || !share.Valid(p) {
		t.Errorf("%d parts", len(p.Vals))
	}
	if i, ok := share.Find(p, value.Plain(trial.Number(999))); i != 999 || !ok {
		t.Errorf("Find: %d", i)
	}
}
