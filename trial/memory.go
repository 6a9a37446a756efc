package trial

import "configlang/api"

// Memory counts how often each element of a list is part of a structure.
type Memory map[any]int

// Shares reports whether two lists in some Vals have common memory.
func Shares(l ...api.Val) bool {
	m := Memory{}
	for _, v := range l {
		m.Val(v)
	}
	return m.Twice()
}

// Twice reports whether an element is part of two lists.
func (m Memory) Twice() bool {
	for _, n := range m {
		if n > 1 {
			return true
		}
	}
	return false
}

// Note counts the elements of a list, also those behind its end.
func Note[T any](m Memory, l []T) {
	l = l[:cap(l)]
	for i := range l {
		m[&l[i]]++
	}
}

// Val counts the elements of all lists in a Val.
func (m Memory) Val(v api.Val) {
	m.Value(v.V)
	m.Value(v.D)
}

// Value counts the elements of all lists in a value.
func (m Memory) Value(v api.Value) {
	Note(m, v.Scalars.Nums.Ints)
	Note(m, v.Scalars.Nums.Fracs)
	m.set(v.Scalars.Strs)
	Note(m, v.Lists)
	for _, c := range v.Lists {
		m.vals(c.Items)
		m.vals(c.Rest)
	}
	Note(m, v.Structs)
	for _, c := range v.Structs {
		Note(m, c.Fields)
		for _, f := range c.Fields {
			m.Val(f.Val)
		}
		Note(m, c.Classes)
		for _, k := range c.Classes {
			m.set(k.Set)
			m.Val(k.Val)
		}
	}
}

// vals counts the elements of a list of Vals.
func (m Memory) vals(l []api.Val) {
	Note(m, l)
	for _, v := range l {
		m.Val(v)
	}
}

// set counts the elements of an automaton.
func (m Memory) set(l api.Lang) {
	Note(m, l.States)
	for _, s := range l.States {
		Note(m, s.Edges)
	}
}
