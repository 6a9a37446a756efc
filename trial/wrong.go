package trial

import (
	"slices"

	"configlang/api"
	"configlang/automaton"
	"configlang/scalar"
	"configlang/value"
)

// Unsound returns values that are not sound, each for one reason.
func Unsound() []api.Value {
	one, a := Number(1), automaton.Word("a")
	deep := one
	for range api.MaxDepth {
		deep = List(api.ListCase{Items: []api.Val{Marked(deep, api.Value{})}})
	}
	return []api.Value{
		{Any: true, Scalars: one.Scalars},
		{Scalars: api.Scalars{Strs: api.Lang{States: []api.State{{}}}}},
		List(api.ListCase{Rest: Plains(one, Number(2))}),
		Record(api.StructCase{Classes: []api.Class{{Set: a, Val: value.Top()}}}),
		Record(api.StructCase{Classes: []api.Class{{Set: automaton.All(), Val: value.Top()}, {Set: a}}}),
		Record(Open(Present("b", one), Present("a", one))),
		Record(Open(api.Field{Label: "a", Presence: api.Optional, Val: value.Top()})),
		deep,
	}
}

// WrongValues returns values that are not valid, each for one reason.
func WrongValues() []api.Value {
	return slices.Concat(Unsound(), withBottoms(), withCovered(), unsorted(), withClasses(), withDefaults())
}

// Wrong returns Vals that are not valid.
func Wrong() []api.Val {
	one, two := Number(1), Number(2)
	l := []api.Val{Marked(one, two), Marked(api.Value{}, one), Marked(one, value.Top().V), Marked(List(Closed(one)), List(Longer(one)))}
	for _, v := range WrongValues() {
		l = append(l, Marked(v, api.Value{}), Marked(value.Top().V, v), value.Plain(v))
	}
	return l
}

// withBottoms returns sound values with items, rests and fields without instances.
func withBottoms() []api.Value {
	one, bottom := Number(1), api.Value{}
	return []api.Value{
		List(Closed(bottom)),
		List(Closed(one, bottom)),
		List(Longer(bottom)),
		List(Longer(bottom, one)),
		Record(Open(Present("a", bottom))),
		Record(Open(Required("a", bottom))),
		Record(Shut(Present("a", one), Required("b", bottom))),
	}
}

// withCovered returns sound values with cases that are below others, and everything written out.
func withCovered() []api.Value {
	one, ints := Number(1), Kind("int")
	return []api.Value{
		List(Closed(one), Closed(one)),
		List(Closed(one), Closed(ints)),
		List(Closed(ints), Closed(one)),
		List(Longer(ints), Closed(one)),
		List(Longer(ints), Closed(Kind("null")), Closed(one)),
		Record(Open(), Open()),
		Record(Open(Present("a", one)), Open()),
		Record(Open(), Open(Present("a", one))),
		Record(Open(Present("a", one)), Open(Required("a", one))),
		{Scalars: scalar.All(), Lists: []api.ListCase{Longer(value.Top().V)}, Structs: []api.StructCase{Open()}},
	}
}

// unsorted returns sound values whose cases are not in order.
func unsorted() []api.Value {
	one, two, null := Number(1), Number(2), Kind("null")
	return []api.Value{
		List(Closed(null, null), Closed(one)),
		List(Closed(one), Closed(null)),
		List(Closed(), Closed(two), Longer(one, one)),
		List(Closed(null), Longer(one, one)),
		Record(Shut(Present("b", one)), Shut(Present("a", one))),
		Record(Shut(Present("a", two)), Shut(Present("a", one))),
	}
}

// withClasses returns sound values with classes that are not united, or not in order.
func withClasses() []api.Value {
	one := value.Plain(Number(1))
	a, noA := automaton.Word("a"), Others(value.Top(), "a").Set
	return []api.Value{
		Record(api.StructCase{Classes: []api.Class{{Set: noA, Val: value.Top()}, {Set: a, Val: value.Top()}}}),
		Record(api.StructCase{Classes: []api.Class{{Set: a, Val: one}, {Set: noA, Val: value.Top()}}}),
		Record(api.StructCase{Fields: []api.Field{Present("", one.V)}, Classes: []api.Class{
			{Set: Strs("bb.*")}, {Set: Strs("[^b].*|b[^b].*"), Val: value.Top()}, {Set: Strs("b"), Val: one},
		}}),
		Record(api.StructCase{Fields: []api.Field{Present("", one.V)}, Classes: []api.Class{
			{Set: Strs("[^b].*|b.+"), Val: value.Top()}, {Set: Strs("b"), Val: value.Top()},
		}}),
	}
}

// withDefaults returns sound values with defaults that are not below their values.
func withDefaults() []api.Value {
	one := Number(1)
	loose := Marked(one, Number(2))
	return []api.Value{
		List(api.ListCase{Items: []api.Val{loose}}),
		List(api.ListCase{Rest: []api.Val{loose}}),
		Record(Open(api.Field{Label: "a", Presence: api.Present, Val: loose})),
		Record(Fields(loose)),
		List(api.ListCase{Rest: []api.Val{Marked(List(Closed(one)), List(Longer(one)))}}),
	}
}
