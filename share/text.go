package share

import (
	"strconv"

	"configlang/api"
	"configlang/parts"
)

// writer writes the text of a Val, in which the Vals of its cases are represented by their indices, so that it is short however deep the Val is.
type writer struct {
	text  []byte
	index func(api.Val) (int, bool)
	ok    bool // whether all of them have one
}

// text returns a text that differs for different Vals, given the indices of Vals; false if a Val of its cases has none.
func text(v api.Val, index func(api.Val) (int, bool)) (string, bool) {
	w := writer{index: index, ok: true}
	w.value(v.V)
	// Most defaults are the values themselves: to follow them again would double the work with each level. A text that ends here is that of such a Val.
	if !parts.Same(v.V, v.D) {
		w.value(v.D)
	}
	return string(w.text), w.ok
}

// value writes a value.
func (w *writer) value(v api.Value) {
	w.flag(v.Any)
	w.scalars(v.Scalars)
	each(w, v.Lists, w.list)
	each(w, v.Structs, w.fields)
}

// scalars writes a set of scalars.
func (w *writer) scalars(s api.Scalars) {
	w.flag(s.Null)
	w.flag(s.False)
	w.flag(s.True)
	each(w, s.Nums.Ints, w.span)
	each(w, s.Nums.Fracs, w.span)
	w.set(s.Strs)
}

// span writes a span.
func (w *writer) span(s api.Span) {
	w.number(s.Lo)
	w.number(s.Hi)
}

// set writes a set of strings.
func (w *writer) set(l api.Lang) {
	each(w, l.States, func(s api.State) {
		w.flag(s.Accept)
		each(w, s.Edges, func(e api.Edge) {
			w.number(int64(e.Lo))
			w.number(int64(e.Hi))
			w.number(int64(e.To))
		})
	})
}

// list writes a list case.
func (w *writer) list(c api.ListCase) {
	each(w, c.Items, w.val)
	each(w, c.Rest, w.val)
}

// fields writes a struct case.
func (w *writer) fields(c api.StructCase) {
	each(w, c.Fields, func(f api.Field) {
		w.number(int64(len(f.Label)))
		w.text = append(w.text, f.Label...)
		w.number(int64(f.Presence))
		w.val(f.Val)
	})
	each(w, c.Classes, func(k api.Class) {
		w.set(k.Set)
		w.val(k.Val)
	})
}

// val writes the index of a Val.
func (w *writer) val(v api.Val) {
	if !w.ok {
		return
	}
	i, ok := w.index(v)
	w.number(int64(i))
	w.ok = ok
}

// flag writes a flag.
func (w *writer) flag(set bool) {
	if set {
		w.number(1)
	} else {
		w.number(0)
	}
}

// number writes a number, so that it ends before what follows.
func (w *writer) number(n int64) {
	w.text = append(strconv.AppendInt(w.text, n, 10), ' ')
}

// each writes how many elements a list has, and then these.
func each[T any](w *writer, l []T, write func(T)) {
	w.number(int64(len(l)))
	for _, x := range l {
		write(x)
	}
}
