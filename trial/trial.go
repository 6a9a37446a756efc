// Package trial composes values and data for the tests of the layers: by hand, and at random, valid and not. The program does not use it.
package trial

import (
	"configlang/api"
	"configlang/automaton"
	"configlang/lang"
	"configlang/regex"
	"configlang/scalar"
	"configlang/value"
)

// Strs returns the set of the strings that a regular expression matches.
func Strs(text string) api.Lang {
	r, _ := regex.Parse(text)
	l, _ := automaton.Of(r)
	return l
}

// Number returns the value of one whole number.
func Number(n int64) api.Value {
	s, _ := scalar.Of(api.Data{Kind: api.Number, Num: n * api.Unit})
	return api.Value{Scalars: s}
}

// Text returns the value of one string.
func Text(s string) api.Value {
	return api.Value{Scalars: api.Scalars{Strs: automaton.Word(s)}}
}

// Kind returns the value of all scalars of a type.
func Kind(name string) api.Value {
	s, _ := scalar.Type(name)
	return api.Value{Scalars: s}
}

// Marked returns the Val with a default.
func Marked(v, d api.Value) api.Val {
	return api.Val{V: v, D: d}
}

// Plains returns the Vals of some values.
func Plains(l ...api.Value) []api.Val {
	var vals []api.Val
	for _, v := range l {
		vals = append(vals, value.Plain(v))
	}
	return vals
}

// Closed returns the list case with some items and no others.
func Closed(l ...api.Value) api.ListCase {
	return api.ListCase{Items: Plains(l...)}
}

// Longer returns the list case with some items, which may be followed by others.
func Longer(rest api.Value, l ...api.Value) api.ListCase {
	return api.ListCase{Items: Plains(l...), Rest: Plains(rest)}
}

// List returns the value of some list cases.
func List(l ...api.ListCase) api.Value {
	return api.Value{Lists: l}
}

// Present returns a present field.
func Present(label string, v api.Value) api.Field {
	return api.Field{Label: label, Presence: api.Present, Val: value.Plain(v)}
}

// Required returns a required field.
func Required(label string, v api.Value) api.Field {
	return api.Field{Label: label, Presence: api.Required, Val: value.Plain(v)}
}

// Others returns the class of all strings but some labels.
func Others(v api.Val, labels ...string) api.Class {
	set := automaton.All()
	for _, s := range labels {
		set = lang.Minus(set, automaton.Word(s))
	}
	return api.Class{Set: set, Val: v}
}

// Fields returns the struct case with some fields, in ascending order, and the same Val for all other labels.
func Fields(others api.Val, l ...api.Field) api.StructCase {
	var labels []string
	for _, f := range l {
		labels = append(labels, f.Label)
	}
	return api.StructCase{Fields: l, Classes: []api.Class{Others(others, labels...)}}
}

// Open returns the struct case with some fields that leaves other labels open.
func Open(l ...api.Field) api.StructCase {
	return Fields(value.Top(), l...)
}

// Shut returns the struct case with some fields that forbids other labels.
func Shut(l ...api.Field) api.StructCase {
	return Fields(value.Bottom(), l...)
}

// Record returns the value of some struct cases.
func Record(l ...api.StructCase) api.Value {
	return api.Value{Structs: l}
}
