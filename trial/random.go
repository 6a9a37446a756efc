package trial

import (
	"slices"

	"configlang/api"
	"configlang/automaton"
	"configlang/lang"
	"configlang/numset"
	"configlang/parts"
	"configlang/value"
)

// Random is a sequence of numbers that look random, but are the same in each run.
type Random uint64

// Below returns a number from 0 to n-1.
func (x *Random) Below(n int) int {
	*x = *x*6364136223846793005 + 1442695040888963407
	return int(uint64(*x)>>33) % n
}

// Pick returns one of some elements.
func Pick[T any](x *Random, l ...T) T {
	return l[x.Below(len(l))]
}

// Labels returns some labels in ascending order.
func Labels() []string {
	return []string{"", "\x00", "#d", "B", "_h", "a", "a\x00", "ab", "b", "ba", "\xff"}
}

// Set returns a random set of strings.
func Set(x *Random) api.Lang {
	if x.Below(2) == 0 {
		return Strs(Pick(x, "a*", "a.*", ".*b", "[]", "b|ba", ".*", "..?", "(aa)*", "[^a]*", "x|ab", "()"))
	}
	l, _ := lang.Bound(Pick(x, "<", "<=", ">", ">=", "==", "!="), Pick(x, Labels()...))
	return l
}

// Scalars returns a random set of scalars.
func Scalars(x *Random) api.Scalars {
	s := api.Scalars{Null: x.Below(3) == 0, False: x.Below(3) == 0, True: x.Below(3) == 0}
	for range x.Below(3) {
		lo := int64(x.Below(5) - 2)
		s.Nums.Ints = append(s.Nums.Ints, api.Span{Lo: lo, Hi: lo + int64(x.Below(2))})
		s.Nums.Fracs = append(s.Nums.Fracs, api.Span{Lo: lo * 5000, Hi: lo*5000 + int64(x.Below(9000))})
	}
	s.Nums = numset.Make(s.Nums)
	if x.Below(2) == 0 {
		s.Strs = Set(x)
	}
	return s
}

// Value returns a random sound value of at most a number of levels. The default of each Val in it is below its value.
func Value(x *Random, levels int) api.Value {
	switch x.Below(8) {
	case 0:
		return value.Top().V
	case 1:
		return value.Bottom().V
	}
	v := api.Value{}
	if x.Below(2) == 0 {
		v.Scalars = Scalars(x)
	}
	if levels < 2 {
		return v
	}
	for range x.Below(5) / 2 {
		v.Lists = append(v.Lists, ListCase(x, levels-1))
	}
	for range x.Below(5) / 2 {
		v.Structs = append(v.Structs, StructCase(x, levels-1))
	}
	return v
}

// Val returns a random sound Val whose default is below its value.
func Val(x *Random, levels int) api.Val {
	v := Value(x, levels)
	switch x.Below(4) {
	case 0:
		return Marked(v, Lower(x, v))
	case 1:
		return Marked(v, value.Bottom().V)
	}
	return Marked(v, parts.Copy(v))
}

// ListCase returns a random list case with Vals of at most a number of levels.
func ListCase(x *Random, levels int) api.ListCase {
	var c api.ListCase
	for range x.Below(3) {
		c.Items = append(c.Items, Val(x, levels))
	}
	if x.Below(2) == 0 {
		c.Rest = []api.Val{Val(x, levels)}
	}
	return c
}

// StructCase returns a random struct case with Vals of at most a number of levels.
func StructCase(x *Random, levels int) api.StructCase {
	var c api.StructCase
	var labels []string
	for _, s := range Labels() {
		if x.Below(8) == 0 {
			labels = append(labels, s)
			c.Fields = append(c.Fields, api.Field{Label: s, Presence: 1 + x.Below(2), Val: Val(x, levels)})
		}
	}
	for _, set := range Divide(x, labels) {
		c.Classes = append(c.Classes, api.Class{Set: set, Val: Val(x, levels)})
	}
	return c
}

// Divide returns random sets, not empty and without common strings, that have all strings but some labels.
func Divide(x *Random, labels []string) []api.Lang {
	sets := []api.Lang{Others(api.Val{}, labels...).Set}
	for range x.Below(4) {
		cut := Set(x)
		var halves []api.Lang
		for _, s := range sets {
			halves = append(halves, lang.And(s, cut), lang.Minus(s, cut))
		}
		sets = slices.DeleteFunc(halves, func(s api.Lang) bool { return len(s.States) == 0 })
	}
	for len(sets) > 1 && x.Below(3) == 0 {
		sets[0] = lang.Or(sets[0], sets[len(sets)-1])
		sets = sets[:len(sets)-1]
	}
	i, j := x.Below(len(sets)), x.Below(len(sets))
	sets[i], sets[j] = sets[j], sets[i]
	return sets
}

// word returns a random string of a set that is not empty.
func word(x *Random, l api.Lang) string {
	return Pick(x, lang.Words(l, 5)...)
}

// without returns a set without one string.
func without(l api.Lang, s string) api.Lang {
	return lang.Minus(l, automaton.Word(s))
}
