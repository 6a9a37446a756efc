package trial

import (
	"strconv"
	"strings"

	"configlang/api"
	"configlang/lang"
	"configlang/parts"
	"configlang/scalar"
)

// Show returns a text of a Val for the messages of tests; that of sets is their least strings alone.
func Show(v api.Val) string {
	if parts.Same(v.V, v.D) {
		return show(v.V)
	}
	return "(" + show(v.V) + " default " + show(v.D) + ")"
}

// show returns a text of a value.
func show(v api.Value) string {
	var l []string
	if v.Any {
		l = append(l, "_")
	}
	if !parts.SameScalars(v.Scalars, api.Scalars{}) {
		l = append(l, showScalars(v.Scalars))
	}
	for _, c := range v.Lists {
		l = append(l, showList(c))
	}
	for _, c := range v.Structs {
		l = append(l, showStruct(c))
	}
	if len(l) == 0 {
		return "_|_"
	}
	return strings.Join(l, " | ")
}

// showScalars returns a text of a set of scalars.
func showScalars(s api.Scalars) string {
	if parts.SameScalars(s, scalar.All()) {
		return "scalars"
	}
	var l []string
	for i, set := range []bool{s.Null, s.False, s.True} {
		if set {
			l = append(l, []string{"null", "false", "true"}[i])
		}
	}
	for _, p := range s.Nums.Ints {
		l = append(l, strconv.FormatInt(p.Lo, 10)+".."+strconv.FormatInt(p.Hi, 10))
	}
	for _, p := range s.Nums.Fracs {
		l = append(l, strconv.FormatInt(p.Lo, 10)+".."+strconv.FormatInt(p.Hi, 10)+" units")
	}
	if len(s.Strs.States) > 0 {
		l = append(l, showSet(s.Strs))
	}
	return strings.Join(l, " | ")
}

// showSet returns a text of a set of strings.
func showSet(l api.Lang) string {
	var words []string
	for _, w := range lang.Words(l, 4) {
		words = append(words, strconv.Quote(w))
	}
	return "<" + strings.Join(words, " ") + ">"
}

// showList returns a text of a list case.
func showList(c api.ListCase) string {
	var l []string
	for _, v := range c.Items {
		l = append(l, Show(v))
	}
	for _, v := range c.Rest {
		l = append(l, "..."+Show(v))
	}
	return "[" + strings.Join(l, ", ") + "]"
}

// showStruct returns a text of a struct case.
func showStruct(c api.StructCase) string {
	var l []string
	for _, f := range c.Fields {
		mark := ": "
		if f.Presence == api.Required {
			mark = "!: "
		}
		l = append(l, strconv.Quote(f.Label)+mark+Show(f.Val))
	}
	for _, k := range c.Classes {
		l = append(l, showSet(k.Set)+": "+Show(k.Val))
	}
	return "{" + strings.Join(l, ", ") + "}"
}
