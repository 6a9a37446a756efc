package concrete

import (
	"slices"
	"strings"

	"configlang/api"
	"configlang/parts"
	"configlang/scalar"
	"configlang/value"
)

// problems is a list of problems.
type problems struct {
	list []Problem
}

// add adds a problem.
func (p *problems) add(path []api.Step, e api.Errno) {
	p.list = append(p.list, Problem{Path: slices.Clone(path), Errno: e})
}

// join leaves the first one of the problems from index n on alone, and at another path.
func (p *problems) join(n int, path []api.Step) {
	if n < len(p.list) {
		e := p.list[n].Errno
		p.list = p.list[:n]
		p.add(path, e)
	}
}

// collector finds the data of a valid Val, and the problems because of which it has none.
type collector struct {
	problems
	hidden bool // whether hidden fields are not left out
}

// data returns the data of the part of a Val at a path, as far as it has some.
func (c *collector) data(path []api.Step, v api.Val) api.Data {
	if value.IsBottom(v.V) {
		c.add(path, api.ErrBottom)
		return api.Data{}
	}
	if r := parts.Resolved(v); parts.Alternatives(r) == 1 { // everything has none
		d, single := scalar.Single(r.Scalars)
		switch {
		case single:
			return d
		case len(r.Structs) == 1:
			return c.fields(path, r.Structs[0].Fields)
		case len(r.Lists) == 1 && len(r.Lists[0].Rest) == 0:
			return c.items(path, r.Lists[0].Items)
		}
	}
	c.add(path, api.ErrOpen)
	return api.Data{}
}

// items returns the list of the data of items.
func (c *collector) items(path []api.Step, l []api.Val) api.Data {
	d := api.Data{Kind: api.List}
	for i, v := range l {
		d.Items = append(d.Items, c.data(behind(path, api.Step{Index: i}), v))
	}
	return d
}

// fields returns the struct of the data of fields.
func (c *collector) fields(path []api.Step, l []api.Field) api.Data {
	d := api.Data{Kind: api.Struct}
fields:
	for _, f := range l {
		at, before := behind(path, api.Step{Label: f.Label}), len(c.list)
		switch {
		case !c.hidden && (strings.HasPrefix(f.Label, "_") || strings.HasPrefix(f.Label, "#")):
			continue fields
		case f.Presence == api.Required:
			c.add(at, api.ErrAbsent)
		default:
			d.Members = append(d.Members, api.Member{Label: f.Label, Data: c.data(at, f.Val)})
		}
		if f.Label == "" { // no step leads there
			c.join(before, path)
		}
	}
	return d
}

// behind returns a path with a step behind it.
func behind(path []api.Step, s api.Step) []api.Step {
	return append(path[:len(path):len(path)], s)
}
