package lookup

import (
	"configlang/api"
	"configlang/parts"
	"configlang/value"
)

// The functions of this file expect valid Vals. Their results may share memory with them.

// lists returns the list cases of a value.
func lists(v api.Value) []api.ListCase {
	return v.Lists
}

// structs returns the struct cases of a value.
func structs(v api.Value) []api.StructCase {
	return v.Structs
}

// only returns the only case of a kind of a Val that is resolved to it alone.
func only[C any](v api.Val, cases func(api.Value) []C) (C, api.Errno) {
	var none C
	if value.IsBottom(v.V) {
		return none, api.ErrBottom
	}
	r := parts.Resolved(v)
	l := cases(r)
	switch {
	case r.Any, len(l) > 0 && parts.Alternatives(r) > 1:
		return none, api.ErrOpen
	case len(l) == 0:
		return none, api.ErrKind
	}
	return l[0], api.OK
}

// selected returns the Val of a field of the struct of a Val.
func selected(v api.Val, label string) (api.Val, api.Errno) {
	c, e := only(v, structs)
	if e != api.OK {
		return api.Val{}, e
	}
	f, found := parts.Field(c, label)
	if !found {
		return api.Val{}, api.ErrAbsent
	}
	return f.Val, api.OK
}

// indexed returns an item of the list of a Val.
func indexed(v api.Val, i int) (api.Val, api.Errno) {
	c, e := only(v, lists)
	switch {
	case e != api.OK:
		return api.Val{}, e
	case i < 0:
		return api.Val{}, api.ErrRange
	case i < len(c.Items):
		return c.Items[i], api.OK
	case len(c.Rest) > 0:
		return api.Val{}, api.ErrOpen
	}
	return api.Val{}, api.ErrAbsent
}
