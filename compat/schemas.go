package compat

import (
	"slices"

	"configlang/api"
	"configlang/automaton"
	"configlang/lang"
	"configlang/parts"
	"configlang/refine"
	"configlang/semver"
	"configlang/steps"
	"configlang/subsume"
)

// schemas is two versions of a schema.
type schemas struct {
	old, new api.Value
}

// valid reports whether both schemas are valid.
func (s schemas) valid() bool {
	return refine.Good(s.old) && refine.Good(s.new)
}

// The methods below expect valid schemas.

// loses reports whether an instance of the old schema is no instance of the new one.
func (s schemas) loses() bool {
	keeps, _ := subsume.Includes(s.new, s.old)
	return !keeps
}

// gains reports whether an instance of the new schema is no instance of the old one.
func (s schemas) gains() bool {
	return schemas{s.new, s.old}.loses()
}

// change returns the greatest change for which the schemas give reason.
func (s schemas) change() int {
	for _, c := range []struct {
		change int
		made   func() bool
	}{{semver.MajorChange, s.loses}, {semver.MinorChange, s.gains}} {
		if c.made() {
			return c.change
		}
	}
	return semver.PatchChange
}

// alike reports whether the schemas differ in their only struct case at most.
func (s schemas) alike() bool {
	return len(s.old.Structs) == 1 && len(s.new.Structs) == 1 &&
		parts.SameScalars(s.old.Scalars, s.new.Scalars) && slices.EqualFunc(s.old.Lists, s.new.Lists, parts.SameList)
}

// breaking returns the paths of Breaking behind a path, in any order; some may occur several times.
func (s schemas) breaking(path []api.Step) [][]api.Step {
	if !s.loses() {
		return nil
	}
	if !s.alike() {
		return [][]api.Step{path}
	}
	var l [][]api.Step
	for _, label := range labels(s.old.Structs[0], s.new.Structs[0]) {
		found := s.under(path, label)
		if label == "" && len(found) > 0 {
			found = [][]api.Step{path} // no step leads there
		}
		l = append(l, found...)
	}
	return l
}

// under returns the paths of Breaking behind a path that begin with a label of structs.
func (s schemas) under(path []api.Step, label string) [][]api.Step {
	at := append(path[:len(path):len(path)], api.Step{Label: label})
	v, before := parts.View(s.old.Structs[0], label)
	w, after := parts.View(s.new.Structs[0], label)
	found := schemas{v.V, w.V}.breaking(at)
	if before == api.Optional && after < api.Optional {
		found = append(found, at)
	}
	return found
}

// labels returns the labels of the fields of two cases, and for each class of the one and each of the other the least label that they have in common, if there is one. Each label occurs once.
func labels(old, new api.StructCase) []string {
	var l []string
	for _, f := range slices.Concat(old.Fields, new.Fields) {
		l = append(l, f.Label)
	}
	slices.Sort(l)
	l = slices.Compact(l)
	fields := parts.Strings(l)
	for _, k := range old.Classes {
		// Most classes have a label in common with few others, which are found one by one, by the least label that is left.
		left := lang.Minus(k.Set, fields)
		for label, some := lang.Least(left); some; label, some = lang.Least(left) {
			l = append(l, label)
			i := slices.IndexFunc(new.Classes, func(m api.Class) bool { return automaton.Accepts(m.Set, label) })
			left = lang.Minus(left, new.Classes[i].Set)
		}
	}
	return l
}

// inOrder returns paths in ascending order, each once.
func inOrder(l [][]api.Step) [][]api.Step {
	slices.SortFunc(l, steps.Compare)
	return slices.CompactFunc(l, func(a, b []api.Step) bool { return steps.Compare(a, b) == 0 })
}
