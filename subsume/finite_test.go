package subsume_test

import (
	"testing"

	"configlang/api"
	"configlang/automaton"
	"configlang/lang"
	"configlang/trial"
)

// atom is data, and the value of which it is the only instance.
type atom struct {
	d api.Data
	v api.Value
}

// atoms returns some atoms; what they contain is a number, or another atom.
func atoms() []atom {
	zero := atom{api.Data{Kind: api.Number}, trial.Number(0)}
	l := []atom{zero, {api.Data{Kind: api.Number, Num: api.Unit}, one}, {api.Data{Kind: api.List}, list(closed())}, {api.Data{Kind: api.Struct}, record(shut())}}
	for _, a := range l[:3] {
		l = append(l,
			atom{api.Data{Kind: api.List, Items: []api.Data{a.d}}, list(closed(a.v))},
			atom{api.Data{Kind: api.Struct, Members: []api.Member{{Label: "b", Data: a.d}}}, record(shut(present("b", a.v)))},
		)
	}
	return l
}

// someOf returns the value of random atoms, of each with a probability of n to 8.
func someOf(x *trial.Random, l []atom, n int) api.Value {
	v := bottom
	for _, a := range l {
		if x.Below(8) < n {
			v = trial.Union(v, a.v)
		}
	}
	return v
}

// finiteStruct returns a random struct case whose instances have some labels, with atoms.
func finiteStruct(x *trial.Random, labels []string, l []atom, n int) api.StructCase {
	var c api.StructCase
	others := automaton.All()
	for _, label := range labels {
		v := someOf(x, l, n)
		word := automaton.Word(label)
		others = lang.Minus(others, word)
		if x.Below(3) == 0 {
			c.Fields = append(c.Fields, present(label, v))
		} else {
			c.Classes = append(c.Classes, api.Class{Set: word, Val: plain(v)})
		}
	}
	c.Classes = append(c.Classes, api.Class{Set: others, Val: plain(trial.Pick(x, top, bottom))})
	return c
}

// structsOf returns all structs with some labels, with atoms or without.
func structsOf(labels []string, l []atom) []api.Data {
	all := []api.Data{{Kind: api.Struct}}
	for _, label := range labels {
		for _, d := range all[:len(all):len(all)] {
			for _, a := range l {
				members := append(d.Members[:len(d.Members):len(d.Members)], api.Member{Label: label, Data: a.d})
				all = append(all, api.Data{Kind: api.Struct, Members: members})
			}
		}
	}
	return all
}

// finiteList returns a random list case of at most n items, which are atoms.
func finiteList(x *trial.Random, n int, l []atom, share int) api.ListCase {
	var c api.ListCase
	for range n {
		c.Items = append(c.Items, plain(someOf(x, l, share)))
	}
	if x.Below(3) == 0 {
		c.Items = c.Items[:x.Below(n+1)]
		c.Rest = []api.Val{plain(someOf(x, l, share))}
	}
	return c
}

// listsOf returns all lists of at most n atoms.
func listsOf(n int, l []atom) []api.Data {
	all := []api.Data{{Kind: api.List}}
	for from := 0; n > 0; n-- {
		to := len(all)
		for _, d := range all[from:to] {
			for _, a := range l {
				all = append(all, api.Data{Kind: api.List, Items: append(d.Items[:len(d.Items):len(d.Items)], a.d)})
			}
		}
		from = to
	}
	return all
}

// checkFinite checks Includes for a value all of whose instances are among some data.
func checkFinite(t *testing.T, a, b api.Value, all []api.Data) bool {
	t.Helper()
	want := true
	for _, d := range all {
		want = want && (trial.Has(a, d) || !trial.Has(b, d))
	}
	if got := includes(t, a, b); got != want {
		t.Fatalf("Includes(%s, %s): %v", shown(a), shown(b), got)
	}
	return want
}

// TestFinite checks values with few instances, which are tried one after the other (P21.1, P21.2).
func TestFinite(t *testing.T) {
	x := trial.Random(216)
	labels := []string{"a", "b", "c", "d"}
	all := atoms()
	numbers := all[:2]
	several := append(numbers[:2:2], atom{api.Data{Kind: api.Number, Num: 2 * api.Unit}, two})
	for _, c := range []struct {
		structs, lists []api.Data
		labels         []string
		n              int
		atoms          []atom
	}{
		{structsOf(labels, several), listsOf(4, several), labels, 4, several},
		{structsOf(labels[:2], all), listsOf(2, all), labels[:2], 2, all},
		{structsOf(labels, numbers), listsOf(6, numbers), labels, 6, numbers},
	} {
		yes, no := 0, 0
		for range 1200 {
			share := 3 + x.Below(5)
			var v, w api.Value
			whole := c.structs
			if x.Below(2) == 0 {
				w = record(finiteStruct(&x, c.labels, c.atoms, 5))
				for i := len(w.Structs[0].Classes); i > 0; i-- {
					if k := &w.Structs[0].Classes[i-1]; k.Val.V.Any {
						k.Val = api.Val{}
					}
				}
				for range 1 + x.Below(9) {
					v.Structs = append(v.Structs, finiteStruct(&x, c.labels, c.atoms, share))
				}
			} else {
				w = list(finiteList(&x, 1+x.Below(c.n), c.atoms, 6))
				w.Lists[0].Rest = nil
				whole = c.lists
				for range 1 + x.Below(9) {
					v.Lists = append(v.Lists, finiteList(&x, x.Below(c.n+1), c.atoms, share))
				}
			}
			v, w = made(v), made(w)
			if len(w.Lists)+len(w.Structs) == 0 {
				continue
			}
			if checkFinite(t, v, w, whole) {
				yes++
			} else {
				no++
			}
		}
		if yes < 200 || no < 300 {
			t.Errorf("%d include, %d do not", yes, no)
		}
	}
}
