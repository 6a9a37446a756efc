package instance

import (
	"iter"
	"slices"

	"configlang/api"
	"configlang/parts"
	"configlang/scalar"
	"configlang/value"
)

// paths yields paths.
type paths = iter.Seq[[]api.Step]

// The functions below expect valid arguments.

// has reports whether d is an instance of v.
func has(v api.Value, d api.Data) bool {
	switch {
	case v.Any:
		return true
	case d.Kind == api.List:
		return slices.ContainsFunc(v.Lists, func(c api.ListCase) bool {
			return permits(c, len(d.Items)) && !some(items(c, d.Items))
		})
	case d.Kind == api.Struct:
		return slices.ContainsFunc(v.Structs, func(c api.StructCase) bool { return !some(members(c, d.Members)) })
	}
	return scalar.Has(v.Scalars, d)
}

// failures yields, in order, the paths to the parts for which d is not an instance of v. Parts are examined only where there is one case that they could be parts of.
func failures(v api.Value, d api.Data) paths {
	switch {
	case d.Kind == api.Struct && len(v.Structs) == 1:
		return members(v.Structs[0], d.Members)
	case d.Kind == api.List && len(v.Lists) == 1 && permits(v.Lists[0], len(d.Items)):
		return items(v.Lists[0], d.Items)
	case has(v, d):
		return func(func([]api.Step) bool) {}
	}
	return here
}

// here yields the empty path.
func here(yield func([]api.Step) bool) {
	yield(nil)
}

// found ends the search for a path.
type found struct{}

// some reports whether there is a path. The search for the first one ends by a panic, which leaves the iterators of all levels at once.
func some(l paths) (ended bool) {
	defer func() {
		_, ended = recover().(found)
	}()
	l(func([]api.Step) bool { panic(found{}) })
	return false
}

// permits reports whether lists with n items may be instances of a list case.
func permits(c api.ListCase, n int) bool {
	return n == len(c.Items) || n > len(c.Items) && len(c.Rest) > 0
}

// items yields the failures of the items of a list, whose number a list case permits.
func items(c api.ListCase, l []api.Data) paths {
	return func(yield func([]api.Step) bool) {
		for i, d := range l {
			v, _ := value.Item(c, i)
			for path := range failures(v.V, d) {
				if !yield(behind(api.Step{Index: i}, path)) {
					return
				}
			}
		}
	}
}

// members yields the failures of the members of a struct, and those of the fields of a struct case that it lacks.
func members(c api.StructCase, l []api.Member) paths {
	return func(yield func([]api.Step) bool) {
		for label, failing := range labelled(c, l) {
			if label == "" { // no step reaches it, nor what it contains
				if some(failing) && !yield(nil) {
					return
				}
				continue
			}
			for path := range failing {
				if !yield(behind(api.Step{Label: label}, path)) {
					return
				}
			}
		}
	}
}

// labelled yields the labels of members and fields, in ascending order, each with the failures there.
func labelled(c api.StructCase, l []api.Member) iter.Seq2[string, paths] {
	return func(yield func(string, paths) bool) {
		fields := c.Fields
		for _, m := range l {
			for len(fields) > 0 && fields[0].Label < m.Label {
				if !yield(fields[0].Label, here) {
					return
				}
				fields = fields[1:]
			}
			if len(fields) > 0 && fields[0].Label == m.Label {
				fields = fields[1:]
			}
			v, _ := parts.View(c, m.Label)
			if !yield(m.Label, failures(v.V, m.Data)) {
				return
			}
		}
		for _, f := range fields {
			if !yield(f.Label, here) {
				return
			}
		}
	}
}

// behind returns a path with a step in front of it.
func behind(s api.Step, path []api.Step) []api.Step {
	return append([]api.Step{s}, path...)
}
