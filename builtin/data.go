package builtin

import (
	"iter"
	"slices"
	"strings"

	"configlang/api"
	"configlang/data"
	"configlang/fixed"
	"configlang/parts"
)

// maxCount is the greatest length of a list that range returns.
const maxCount = 100

// The functions of this file expect valid data, as many arguments as they have.

// number returns the data of a whole number.
func number(n int) api.Data {
	return units(int64(n) * api.Unit)
}

// units returns the data of a number in units.
func units(u int64) api.Data {
	return api.Data{Kind: api.Number, Num: u}
}

// text returns the data of a string.
func text(s string) api.Data {
	return api.Data{Kind: api.String, Str: s}
}

// list returns the data of a list.
func list(l []api.Data) api.Data {
	return api.Data{Kind: api.List, Items: l}
}

// listOf reports whether data is a list of items of one kind.
func listOf(kind int, d api.Data) bool {
	return d.Kind == api.List && !slices.ContainsFunc(d.Items, func(item api.Data) bool { return item.Kind != kind })
}

// items yields what is taken from each item of a list, in order.
func items[T any](d api.Data, take func(item api.Data) T) iter.Seq[T] {
	return func(yield func(T) bool) {
		for _, item := range d.Items {
			if !yield(take(item)) {
				return
			}
		}
	}
}

// numbers returns the units of a list of numbers.
func numbers(d api.Data) []int64 {
	return slices.Collect(items(d, func(item api.Data) int64 { return item.Num }))
}

// concat returns the strings of a list as one, with another string between them.
func concat(args []api.Data) (api.Data, api.Errno) {
	if !listOf(api.String, args[0]) || args[1].Kind != api.String {
		return api.Data{}, api.ErrKind
	}
	var b strings.Builder
	between := ""
	for s := range items(args[0], func(item api.Data) string { return item.Str }) {
		if b.Len()+len(between)+len(s) > api.MaxText {
			return api.Data{}, api.ErrSize
		}
		b.WriteString(between + s)
		between = args[1].Str
	}
	return text(b.String()), api.OK
}

// keys returns the list of the labels of a struct.
func keys(args []api.Data) (api.Data, api.Errno) {
	if args[0].Kind != api.Struct {
		return api.Data{}, api.ErrKind
	}
	return list(parts.Each(args[0].Members, func(m api.Member) api.Data { return text(m.Label) })), api.OK
}

// members returns the list of the data of the members of a struct.
func members(args []api.Data) (api.Data, api.Errno) {
	if args[0].Kind != api.Struct {
		return api.Data{}, api.ErrKind
	}
	return list(parts.Each(args[0].Members, func(m api.Member) api.Data { return m.Data })), api.OK
}

// length returns the number of bytes of a string, of items of a list, or of members of a struct.
func length(args []api.Data) (api.Data, api.Errno) {
	switch d := args[0]; d.Kind {
	case api.String:
		return number(len(d.Str)), api.OK
	case api.List:
		return number(len(d.Items)), api.OK
	case api.Struct:
		return number(len(d.Members)), api.OK
	}
	return api.Data{}, api.ErrKind
}

// extreme returns the function that picks one number of a list.
func extreme(pick func([]int64) int64) func(args []api.Data) (api.Data, api.Errno) {
	return func(args []api.Data) (api.Data, api.Errno) {
		if !listOf(api.Number, args[0]) || len(args[0].Items) == 0 {
			return api.Data{}, api.ErrKind
		}
		return units(pick(numbers(args[0]))), api.OK
	}
}

// count returns the list of the whole numbers from 0 on that are less than a number.
func count(args []api.Data) (api.Data, api.Errno) {
	n := args[0].Num
	switch {
	case args[0].Kind != api.Number:
		return api.Data{}, api.ErrKind
	case !fixed.Whole(n) || n < 0 || n > maxCount*api.Unit:
		return api.Data{}, api.ErrRange
	}
	var l []api.Data
	for i := range int(n / api.Unit) {
		l = append(l, number(i))
	}
	return list(l), api.OK
}

// sorted returns the items of a list in ascending order.
func sorted(args []api.Data) (api.Data, api.Errno) {
	if args[0].Kind != api.List {
		return api.Data{}, api.ErrKind
	}
	l := slices.Clone(args[0].Items)
	slices.SortStableFunc(l, data.Compare)
	return list(l), api.OK
}

// sum returns the sum of a list of numbers.
func sum(args []api.Data) (api.Data, api.Errno) {
	if !listOf(api.Number, args[0]) {
		return api.Data{}, api.ErrKind
	}
	u, e := added(numbers(args[0])...)
	if e != api.OK {
		return api.Data{}, e
	}
	return units(u), api.OK
}

// added returns the sum of numbers, which are added one after the other.
func added(l ...int64) (int64, api.Errno) {
	total := int64(0)
	for _, n := range l {
		next, e := fixed.Add(total, n)
		if e != api.OK {
			return 0, e
		}
		total = next
	}
	return total, api.OK
}
