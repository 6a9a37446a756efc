package subsume_test

import (
	"slices"
	"strconv"
	"testing"

	"configlang/api"
	"configlang/automaton"
	"configlang/data"
	"configlang/lang"
	"configlang/parts"
	"configlang/scalar"
	"configlang/subsume"
	"configlang/trial"
	"configlang/value"
)

// checkLarge checks Includes for values for which the definition would take too long.
func checkLarge(t *testing.T, name string, a, b api.Value, want bool) {
	t.Helper()
	if got := includes(t, made(a), made(b)); got != want {
		t.Errorf("%s: %v", name, got)
	}
}

// grid checks all pairs of n values, and all but one: cell is the case of a pair.
func grid(t *testing.T, n int, whole api.Value, cell func(x, y int) api.StructCase) {
	t.Helper()
	var all []api.StructCase
	for i := range n * n {
		all = append(all, cell(i/n, i%n))
	}
	checkLarge(t, "a grid", record(all...), whole, true)
	for _, i := range []int{0, 1, n + 3, n*n - 2, n*n - 1} {
		checkLarge(t, "a grid with a hole", record(slices.Delete(slices.Clone(all), i, i+1)...), whole, false)
	}
}

// TestGrid checks the pairs of numbers, and of lists and structs with them (P21.1).
func TestGrid(t *testing.T) {
	const n = 7
	wide := func(v api.Value) api.Value { return record(open(present("v", v))) }
	narrow := func(v api.Value) api.Value { return record(shut(present("v", v), present("w", ints))) }
	either := func(v api.Value) api.Value { return union(list(longer(top, v)), record(open(present("v", v)))) }
	both := func(v api.Value) api.Value { return union(list(closed(v, ints)), narrow(v)) }
	itself := func(v api.Value) api.Value { return v }
	for _, wrap := range [][2]func(api.Value) api.Value{{itself, itself}, {narrow, narrow}, {narrow, wide}, {both, either}} {
		pair := func(x, y api.Value) api.StructCase { return shut(present("x", x), present("y", y)) }
		whole, part := wrap[0], wrap[1]
		grid(t, n, record(pair(whole(span(0, n-1)), whole(span(0, n-1)))), func(x, y int) api.StructCase {
			return pair(part(span(x, x)), part(span(y, y)))
		})
	}
}

// TestLacking checks the pairs of what may be at two labels: nothing, or a number (P21.1).
func TestLacking(t *testing.T) {
	const n = 6
	whole := api.StructCase{Classes: []api.Class{{Set: trial.Strs("x|y"), Val: plain(span(1, n-1))}, {Set: lang.Not(trial.Strs("x|y"))}}}
	grid(t, n, record(whole), func(x, y int) api.StructCase {
		var c api.StructCase
		set := automaton.All()
		for i, label := range []string{"x", "y"} {
			word := automaton.Word(label)
			set = lang.Minus(set, word)
			if v := []int{x, y}[i]; v > 0 {
				c.Fields = append(c.Fields, present(label, span(v, v)))
			} else {
				c.Classes = append(c.Classes, api.Class{Set: word})
			}
		}
		c.Classes = append(c.Classes, api.Class{Set: set, Val: value.Top()})
		return c
	})
}

// flags returns the struct case of n fields; each has the value that a function gives for it, but for those for which it is bottom.
func flags(n int, flag func(i int) api.Value) api.StructCase {
	var l []api.Field
	for i := range n {
		if v := flag(i); !value.IsBottom(v) {
			l = append(l, present("f"+strconv.Itoa(10+i), v))
		}
	}
	return open(l...)
}

// TestCorners checks all combinations of flags, and all but one (P21.1).
func TestCorners(t *testing.T) {
	const n = 6
	var all []api.StructCase
	for corner := range 1 << n {
		all = append(all, flags(n, func(i int) api.Value { return trial.Number(int64(corner >> i & 1)) }))
	}
	whole := record(flags(n, func(int) api.Value { return span(0, 1) }))
	checkLarge(t, "all corners", record(all...), whole, true)
	checkLarge(t, "all corners but one", record(slices.Delete(all, 21, 22)...), whole, false)
}

// TestFormulas checks combinations of flags that are excluded at random, three at a time: there is a witness exactly if a combination is left (P21.1).
func TestFormulas(t *testing.T) {
	const n = 12
	x := trial.Random(215)
	count := [2]int{}
	for range 60 {
		var cases []api.StructCase
		left := make([]bool, 1<<n)
		for i := range left {
			left[i] = true
		}
		for range n*4 + x.Below(n) {
			picked, flag := 0, x.Below(1<<n)
			for range 3 {
				picked |= 1 << x.Below(n)
			}
			cases = append(cases, flags(n, func(i int) api.Value {
				if picked>>i&1 == 0 {
					return bottom
				}
				return trial.Number(int64(flag >> i & 1))
			}))
			for i := range left {
				left[i] = left[i] && (i^flag)&picked != 0
			}
		}
		found := slices.Contains(left, true)
		checkLarge(t, "a formula", record(cases...), record(flags(n, func(int) api.Value { return span(0, 1) })), !found)
		if found {
			count[1]++
		} else {
			count[0]++
		}
	}
	if count[0] < 10 || count[1] < 10 {
		t.Error(count)
	}
}

// TestPigeons checks cases that are violated by a number of their own, which is at a place of its own (P21.1).
func TestPigeons(t *testing.T) {
	const n = 24
	var labels []string
	var items []api.Value
	for i := range n {
		labels = append(labels, strconv.Itoa(i*i))
		items = append(items, api.Value{})
	}
	set := parts.Strings(labels)
	classed := func(v, others api.Value) api.StructCase {
		return api.StructCase{Classes: []api.Class{{Set: set, Val: plain(v)}, {Set: lang.Not(set), Val: plain(others)}}}
	}
	for _, k := range []int{n - 1, n, n + 1} {
		var structs []api.StructCase
		var lists []api.ListCase
		for i := 1; i <= k; i++ {
			structs = append(structs, classed(but(k, i), top))
			lists = append(lists, longer(but(k, i)))
		}
		for i := range items {
			items[i] = span(1, k)
		}
		checkLarge(t, "labels", record(structs...), record(classed(span(1, k), bottom)), k > n)
		checkLarge(t, "items", list(lists...), list(closed(items...)), k > n)
		checkLarge(t, "labels and others", record(structs...), record(classed(span(1, k), ints)), k > n)
		checkLarge(t, "longer lists", list(lists...), list(longer(span(1, k))), false)
	}
}

// TestTagged checks structs of many kinds, which are told apart by a field (P21.1).
func TestTagged(t *testing.T) {
	const n = 40
	tagged := func(more, without int) api.Value {
		var cases []api.StructCase
		for k := range n {
			l := []api.Field{present("kind", trial.Text("k"+strconv.Itoa(k)))}
			for i := range 10 {
				l = append(l, present("x"+strconv.Itoa(100*k+i+1000), span(0, i+more)))
			}
			if k != without {
				cases = append(cases, open(l...))
			}
		}
		return record(cases...)
	}
	checkLarge(t, "wider", tagged(2, -1), tagged(1, -1), true)
	checkLarge(t, "narrower", tagged(1, -1), tagged(2, -1), false)
	checkLarge(t, "without one", tagged(2, 17), tagged(1, -1), false)
	checkLarge(t, "more", tagged(1, -1), tagged(1, 17), true)
}

// TestMany checks many fields and many items (P21.1).
func TestMany(t *testing.T) {
	const n = 1000
	var low, high []api.Value
	var narrow, wide []api.Field
	for i := range n {
		low, high = append(low, span(0, i)), append(high, span(0, i+1))
		label := "f" + strconv.Itoa(n+i)
		narrow, wide = append(narrow, present(label, low[i])), append(wide, present(label, high[i]))
	}
	checkLarge(t, "fields", record(open(wide...)), record(open(narrow...)), true)
	checkLarge(t, "fields", record(open(narrow...)), record(open(wide...)), false)
	checkLarge(t, "more fields", record(open(wide[:n-1]...)), record(shut(narrow...)), true)
	checkLarge(t, "fewer fields", record(open(wide...)), record(open(narrow[1:]...)), false)
	checkLarge(t, "items", list(longer(ints, high...)), list(closed(low...)), true)
	checkLarge(t, "items", list(closed(low...)), list(closed(high...)), false)
	checkLarge(t, "items and others", list(longer(ints, high...)), list(longer(ints, low...)), true)
	checkLarge(t, "items and others", list(longer(span(0, 9), high...)), list(longer(ints, low...)), false)
	checkLarge(t, "lengths", list(closed(low[:1]...), closed(), longer(ints, ints, ints)), list(longer(span(0, 0), low...)), true)
	checkLarge(t, "a length", list(closed(), closed(ints), longer(ints, ints, ints, ints)), list(longer(ints)), false)
}

// tower returns a value of a number of levels, in each of which there are two cases that have common instances, and which differs in the numbers at the last level.
func tower(levels, most int) api.Value {
	v := span(0, most)
	for range levels - 1 {
		v = made(record(open(present("a", v)), open(present("b", v))))
	}
	return v
}

// TestDeep checks values of the number of levels for which the promises hold, and deeper ones (P21.1, P21.2).
func TestDeep(t *testing.T) {
	const levels = api.MaxDepth / 2
	low, high := tower(levels, 5), tower(levels, 6)
	for _, c := range []struct {
		a, b api.Value
		want bool
	}{{high, low, true}, {low, high, false}, {low, low, true}, {top, high, true}, {high, top, false}, {tower(levels-1, 5), low, false}, {low, tower(levels-1, 5), false}} {
		if got := includes(t, c.a, c.b); got != c.want {
			t.Errorf("levels %d and %d: %v", value.Depth(c.a), value.Depth(c.b), got)
		}
	}
	lists, structs := one, ints
	for range api.MaxDepth - 1 {
		lists, structs = list(api.ListCase{Items: []api.Val{marked(lists, bottom)}, Rest: []api.Val{value.Top()}}), record(open(api.Field{Label: "a", Presence: api.Present, Val: marked(structs, bottom)}))
	}
	for _, v := range []api.Value{lists, structs} {
		if !includes(t, v, v) || !includes(t, top, v) || includes(t, v, top) || includes(t, lists, structs) {
			t.Errorf("the greatest depth: %s", shown(v))
		}
	}
	// The only instances that differ have an empty struct at the last level, as data is not nested more deeply.
	narrow, wide := list(longer(api.Value{Scalars: scalar.All(), Lists: []api.ListCase{closed()}})), list(longer(top))
	for range api.MaxDepth - 2 {
		narrow, wide = list(closed(narrow)), list(closed(wide))
	}
	if d, found, _ := subsume.Witness(narrow, wide); !found || data.Depth(d) != api.MaxDepth || includes(t, narrow, wide) || !includes(t, wide, narrow) {
		t.Errorf("Witness at the greatest depth: %v", d)
	}
}

// TestWords checks the words of sets that have more than lang.Words returns (P21.1).
func TestWords(t *testing.T) {
	for _, c := range []struct {
		set     api.Lang
		n, want int
	}{
		{automaton.All(), 2500, 2500}, {trial.Strs("[]"), 5, 0}, {trial.Strs("[a-d]"), 5, 4}, {trial.Strs("[a-d]"), 4, 4}, {trial.Strs("[a-d]"), 3, 3}, {trial.Strs("[a-m][a-m][a-m]"), 3000, 13 * 13 * 13}, {trial.Strs("[a-m][a-m][a-m]"), 2000, 2000}, {automaton.All(), 0, 0},
	} {
		l := subsume.Words(c.set, c.n)
		if len(l) != c.want {
			t.Errorf("%d words of at most %d", len(l), c.n)
		}
		for i, w := range l {
			if !automaton.Accepts(c.set, w) || i > 0 && (len(l[i-1]) > len(w) || len(l[i-1]) == len(w) && l[i-1] >= w) {
				t.Fatalf("word %d: %q", i, w)
			}
		}
	}
}
