package closing_test

import (
	"configlang/api"
	"configlang/automaton"
	"configlang/scalar"
	"configlang/trial"
	"configlang/unify"
	"configlang/value"
)

// The functions below are the definitions of the chapter, for valid arguments.

// rule tells what becomes of the Val of a class, if it is not turned as all others.
type rule func(v api.Val) (api.Val, bool)

// closes is the rule of Close.
func closes(v api.Val) (api.Val, bool) {
	return value.Bottom(), v.V.Any && v.D.Any
}

// opens is the rule of Open.
func opens(v api.Val) (api.Val, bool) {
	return value.Top(), value.IsBottom(v.V)
}

// turnedVal returns the closed or opened Val.
func turnedVal(v api.Val, r rule) api.Val {
	high := turned(v.V, r)
	low, _ := unify.Meet(high, turned(v.D, r))
	return api.Val{V: high, D: low}
}

// turned returns the closed or opened value.
func turned(v api.Value, r rule) api.Value {
	if v.Any {
		return v
	}
	u := api.Value{Scalars: v.Scalars}
	for _, c := range v.Lists {
		var d api.ListCase
		for _, item := range c.Items {
			d.Items = append(d.Items, turnedVal(item, r))
		}
		for _, rest := range c.Rest {
			d.Rest = append(d.Rest, turnedVal(rest, r))
		}
		u.Lists = append(u.Lists, d)
	}
	for _, c := range v.Structs {
		var d api.StructCase
		for _, f := range c.Fields {
			d.Fields = append(d.Fields, api.Field{Label: f.Label, Presence: f.Presence, Val: turnedVal(f.Val, r)})
		}
		for _, k := range c.Classes {
			w := turnedVal(k.Val, r)
			if other, ok := r(k.Val); ok {
				w = other
			}
			d.Classes = append(d.Classes, api.Class{Set: k.Set, Val: w})
		}
		u.Structs = append(u.Structs, d)
	}
	return trial.Made(value.Plain(u)).V
}

// shape returns the shape of a value.
func shape(v api.Value) api.Value {
	if v.Any || len(v.Structs) == 0 {
		return value.Top().V
	}
	s := api.Value{Scalars: scalar.All(), Lists: []api.ListCase{{Rest: []api.Val{value.Top()}}}}
	for _, c := range v.Structs {
		var d api.StructCase
		for _, f := range c.Fields {
			d.Classes = append(d.Classes, api.Class{Set: automaton.Word(f.Label), Val: value.Plain(shape(f.Val.V))})
		}
		for _, k := range c.Classes {
			w := value.Bottom()
			if !value.IsBottom(k.Val.V) {
				w = value.Plain(shape(k.Val.V))
			}
			d.Classes = append(d.Classes, api.Class{Set: k.Set, Val: w})
		}
		s.Structs = append(s.Structs, d)
	}
	return trial.Made(value.Plain(s)).V
}

// vals returns all Vals in the cases of a value, and those in them, and whether each is that of a class.
func vals(v api.Value) (l []api.Val, classes []bool) {
	add := func(w api.Val, class bool) {
		l, classes = append(l, w), append(classes, class)
		for _, u := range []api.Value{w.V, w.D} {
			inner, kinds := vals(u)
			l, classes = append(l, inner...), append(classes, kinds...)
		}
	}
	for _, c := range v.Lists {
		for _, w := range append(append([]api.Val(nil), c.Items...), c.Rest...) {
			add(w, false)
		}
	}
	for _, c := range v.Structs {
		for _, f := range c.Fields {
			add(f.Val, false)
		}
		for _, k := range c.Classes {
			add(k.Val, true)
		}
	}
	return l, classes
}

// closed reports whether a value is closed.
func closed(v api.Value) bool {
	l, classes := vals(v)
	for i, w := range l {
		if classes[i] && value.IsTop(w) {
			return false
		}
	}
	return !v.Any
}

// structs reports whether a value has a struct case in some part.
func structs(v api.Value) bool {
	l, _ := vals(v)
	for _, w := range append(l, value.Plain(v)) {
		if len(w.V.Structs)+len(w.D.Structs) > 0 {
			return true
		}
	}
	return false
}
