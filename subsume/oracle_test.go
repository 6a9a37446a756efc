package subsume_test

import (
	"slices"

	"configlang/api"
	"configlang/automaton"
	"configlang/lang"
	"configlang/scalar"
	"configlang/value"
)

// oracle decides by the definition of the chapter, in so many steps at most.
type oracle struct {
	steps int
}

// tooLong ends a decision that takes too many steps.
type tooLong struct{}

// outside reports whether a valid value has an instance that is none of another one; known is false if that takes too long to find out.
func outside(v, other api.Value) (found, known bool) {
	defer func() {
		if r := recover(); r != nil {
			_ = r.(tooLong)
		}
	}()
	o := oracle{steps: 3000}
	return o.outside(v, []api.Value{other}), true
}

// outside reports whether a valid value has an instance that is none of others: it tries all assignments of violated cases to labels and indices.
func (o *oracle) outside(v api.Value, others []api.Value) bool {
	if o.steps--; o.steps < 0 {
		panic(tooLong{})
	}
	if slices.ContainsFunc(others, func(w api.Value) bool { return w.Any }) {
		return false
	}
	if v.Any {
		v = api.Value{Scalars: scalar.All(), Lists: []api.ListCase{{Rest: []api.Val{value.Top()}}}, Structs: []api.StructCase{{Classes: []api.Class{{Set: automaton.All(), Val: value.Top()}}}}}
	}
	var lists []api.ListCase
	var structs []api.StructCase
	for _, w := range others {
		v.Scalars = scalar.Minus(v.Scalars, w.Scalars)
		lists = append(lists, w.Lists...)
		structs = append(structs, w.Structs...)
	}
	return !scalar.Empty(v.Scalars) ||
		slices.ContainsFunc(v.Lists, func(c api.ListCase) bool { return o.lists(c, lists) }) ||
		slices.ContainsFunc(v.Structs, func(c api.StructCase) bool { return o.structs(c, structs) })
}

// assigned reports whether each of n cases can be assigned to one of some spots, where may reports whether cases can be violated together at a spot.
func assigned(n, spots int, may func(spot int, cases []int) bool) bool {
	at := make([][]int, spots)
	var assign func(c int) bool
	assign = func(c int) bool {
		if c == n {
			return true
		}
		for s := range spots {
			before := at[s]
			at[s] = append(slices.Clone(before), c)
			if may(s, at[s]) && assign(c+1) {
				return true
			}
			at[s] = before
		}
		return false
	}
	return assign(0)
}

// permits reports whether a list case permits a length.
func permits(c api.ListCase, n int) bool {
	return n == len(c.Items) || n > len(c.Items) && len(c.Rest) > 0
}

// lists is outside for list cases.
func (o *oracle) lists(c api.ListCase, others []api.ListCase) bool {
	most := len(c.Items)
	for _, k := range others {
		most = max(most, len(k.Items))
	}
	for n := range most + len(others) + 1 {
		if !permits(c, n) {
			continue
		}
		var left []api.ListCase
		for _, k := range others {
			if permits(k, n) {
				left = append(left, k)
			}
		}
		if assigned(len(left), n, func(i int, cases []int) bool {
			own, _ := value.Item(c, i)
			var l []api.Value
			for _, k := range cases {
				v, _ := value.Item(left[k], i)
				l = append(l, v.V)
			}
			return o.outside(own.V, l)
		}) {
			return true
		}
	}
	return false
}

// structs is outside for struct cases.
func (o *oracle) structs(c api.StructCase, others []api.StructCase) bool {
	labels := spots(append([]api.StructCase{c}, others...), len(others))
	return assigned(len(others), len(labels), func(i int, cases []int) bool {
		own, presence := value.View(c, labels[i])
		absent := presence == api.Optional
		var l []api.Value
		for _, k := range cases {
			v, p := value.View(others[k], labels[i])
			l = append(l, v.V)
			absent = absent && p < api.Optional
		}
		return absent || o.outside(own.V, l)
	})
}

// spots returns the labels of the fields of some cases, and n labels of each set that their classes have in common.
func spots(cases []api.StructCase, n int) []string {
	var labels []string
	sets := []api.Lang{automaton.All()}
	for _, c := range cases {
		for _, f := range c.Fields {
			labels = append(labels, f.Label)
		}
		var finer []api.Lang
		for _, s := range sets {
			for _, k := range c.Classes {
				if both := lang.And(s, k.Set); len(both.States) > 0 {
					finer = append(finer, both)
				}
			}
		}
		sets = finer
	}
	slices.Sort(labels)
	labels = slices.Compact(labels)
	named := len(labels)
	for _, s := range sets {
		for _, label := range labels[:named] {
			s = lang.Minus(s, automaton.Word(label))
		}
		labels = append(labels, lang.Words(s, n)...)
	}
	return labels
}
