package subsume

import (
	"slices"

	"configlang/api"
	"configlang/parts"
	"configlang/value"
)

// list returns a list that is an instance of all cases of in, and of none of out, and has at most a number of levels; false if there is none.
func list(in, out []api.ListCase, levels int) (api.Data, bool) {
	all := longest(slices.Concat(in, out))
	for _, n := range lengths(in, out) {
		left := permitting(out, n)
		var further []api.Data
		if n > all {
			left, further = beyond(in, left, levels-1)
		}
		if choices, ok := newSearch(indices(in, left, n), levels-1).run(len(left)); ok {
			items := parts.Each(choices, func(c choice) api.Data { return c.data })
			return api.Data{Kind: api.List, Items: append(items, further...)}, true
		}
	}
	return api.Data{}, false
}

// lengths returns the lengths of lists that make a difference, as far as all cases of in permit them, in ascending order: the least one, and those that have to be exceeded for a case of out to permit the list. Other lists do no worse with one more item, as cases are violated at any index; so one length that is greater than the numbers of items of all cases stands for all of these.
func lengths(in, out []api.ListCase) []int {
	least := longest(in)
	l := []int{least, longest(slices.Concat(in, out)) + 1}
	for _, c := range out {
		l = append(l, len(c.Items)-1)
	}
	slices.Sort(l)
	return slices.DeleteFunc(slices.Compact(l), func(n int) bool {
		return n < least || len(permitting(in, n)) < len(in)
	})
}

// longest returns the greatest number of items of some cases.
func longest(l []api.ListCase) int {
	n := 0
	for _, c := range l {
		n = max(n, len(c.Items))
	}
	return n
}

// permitting returns the cases that permit a length.
func permitting(l []api.ListCase, n int) []api.ListCase {
	var some []api.ListCase
	for _, c := range l {
		if n == len(c.Items) || n > len(c.Items) && len(c.Rest) > 0 {
			some = append(some, c)
		}
	}
	return some
}

// beyond returns those cases of out that no item violates that is behind the Items of all cases, and for each other one an item that does.
func beyond(in, out []api.ListCase, levels int) ([]api.ListCase, []api.Data) {
	rest := everything()
	for _, c := range in {
		rest = rest.and(c.Rest[0].V)
	}
	var left []api.ListCase
	var items []api.Data
	for _, c := range out {
		if d, ok := rest.minus(c.Rest[0].V).least(levels); ok {
			items = append(items, d)
		} else {
			left = append(left, c)
		}
	}
	return left, items
}

// indices returns the places of a list with n items, a length that all cases permit.
func indices(in, out []api.ListCase, n int) []place {
	var l []place
	for i := range n {
		var p place
		for _, c := range in {
			v, _ := value.Item(c, i)
			p.in = append(p.in, v.V)
		}
		for _, c := range out {
			v, _ := value.Item(c, i)
			p.views = append(p.views, view{value: v.V, must: true})
		}
		l = append(l, p)
	}
	return l
}
