package value_test

import (
	"strings"
	"testing"

	"configlang/api"
	"configlang/automaton"
	"configlang/lang"
	"configlang/value"
)

// TestExact compares both ways to find out whether each string is in exactly one set with the definition (P12.2).
func TestExact(t *testing.T) {
	x := random(7)
	count := [2]int{}
	for n := range 3000 {
		var tables [][]api.State
		union, overlap := api.Lang{}, false
		for i, s := range divide(&x, nil) {
			switch {
			case n%2 == 0 || i != x.below(3):
			case x.below(2) == 0:
				s = lang.Minus(s, someSet(&x))
			default:
				s = lang.Or(s, someSet(&x))
			}
			overlap = overlap || len(lang.And(union, s).States) > 0
			union = lang.Or(union, s)
			tables = append(tables, s.States)
		}
		want := !overlap && automaton.Same(union, automaton.All())
		if value.Exact(tables, value.Enough) != want || value.Exact(tables, 0) != want || value.Exact(tables, x.below(20)) != want {
			t.Fatalf("%v: want %v", tables, want)
		}
		if want {
			count[0]++
		} else {
			count[1]++
		}
	}
	if count[0] < 500 || count[1] < 500 {
		t.Error(count)
	}
	if value.Exact(nil, 0) || value.Exact(nil, value.Enough) {
		t.Error("no tables")
	}
}

// ending returns the sets of the strings that end with a letter, divided by their lengths modulo n.
func ending(letter byte, n int) []api.Lang {
	var sets []api.Lang
	for length := range n {
		states := make([]api.State, 2*n)
		for i := range states { // i/2 is the length, and i is odd behind the letter
			to := 2 * ((i/2 + 1) % n)
			states[i] = api.State{Accept: i == 2*length+1, Edges: []api.Edge{{Lo: 0, Hi: letter - 1, To: to}, {Lo: letter, Hi: letter, To: to + 1}, {Lo: letter + 1, Hi: 255, To: to}}}
		}
		l, _ := automaton.Minimal(states)
		sets = append(sets, l)
	}
	return sets
}

// periods returns a struct case whose automata together have more states than can be visited: the strings with each last letter are divided by another number.
func periods(numbers ...int) api.StructCase {
	c := api.StructCase{Classes: []api.Class{class(".*[^a-i]|()", value.Top())}}
	for i, n := range numbers {
		for _, s := range ending(byte('a'+i), n) {
			c.Classes = append(c.Classes, api.Class{Set: s})
		}
	}
	return c
}

// TestPeriods checks classes whose automata have many states together (P12.2).
func TestPeriods(t *testing.T) {
	c := periods(2, 3, 5, 7, 11, 13, 17, 19, 23)
	if !value.Sound(value.Plain(record(c))) || value.Depth(record(c)) != 2 {
		t.Error("not sound")
	}
	for i := 0; i < len(c.Classes); i += 9 {
		d := clone(c)
		d.Classes[i].Set = lang.Minus(d.Classes[i].Set, strs("[^z]*zzzz[^z]*"))
		if value.Sound(value.Plain(record(d))) {
			t.Error("strings are missing in class", i)
		}
		d.Classes[i].Set = lang.Or(c.Classes[i].Set, strs("[^z]*zzzz[^z]*"))
		if value.Sound(value.Plain(record(d))) {
			t.Error("class and others overlap", i)
		}
	}
}

// TestManyLabels checks struct cases with many fields and many classes (P12.2).
func TestManyLabels(t *testing.T) {
	c := api.StructCase{}
	labels := api.Lang{}
	for i := range 26 * 26 {
		s := string([]byte{byte('a' + i/26), byte('a' + i%26)})
		labels = lang.Or(labels, automaton.Word(s))
		if i%2 == 0 {
			c.Fields = append(c.Fields, field(s, api.Value{}))
		} else {
			c.Classes = append(c.Classes, api.Class{Set: automaton.Word(s)})
		}
	}
	if value.Sound(value.Plain(record(c))) {
		t.Error("sound without the other labels")
	}
	c.Classes = append(c.Classes, api.Class{Set: lang.Not(labels), Val: value.Top()})
	if !value.Sound(value.Plain(record(c))) {
		t.Error("not sound")
	}
	c.Classes[7].Set = automaton.Word("ab")
	if value.Sound(value.Plain(record(c))) {
		t.Error("sound with a label twice")
	}
}

// TestLongLabel checks a label whose table has very many states (P12.2).
func TestLongLabel(t *testing.T) {
	long := strings.Repeat("a", 70000)
	c := open(field(long, api.Value{}))
	if !value.Sound(value.Plain(record(c))) {
		t.Error("not sound")
	}
	for _, n := range []int{300, 69000} {
		d := clone(c)
		d.Classes[0].Set = lang.Minus(d.Classes[0].Set, automaton.Word(long[:n]+"b"))
		if value.Sound(value.Plain(record(d))) {
			t.Errorf("sound without a string of %d bytes", n+1)
		}
	}
}

// TestInverse checks the arithmetic of vectors.
func TestInverse(t *testing.T) {
	x := random(8)
	for _, n := range []uint64{1, 2, value.Prime - 1, value.Prime - 2, uint64(1 + x.below(value.Prime-1)), uint64(1 + x.below(value.Prime-1))} {
		if m := value.Inverse(n); m >= value.Prime || m*n%value.Prime != 1 {
			t.Errorf("Inverse(%d): %d", n, m)
		}
	}
}
