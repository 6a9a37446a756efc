package compat_test

import (
	"slices"

	"configlang/api"
	"configlang/automaton"
	"configlang/lang"
	"configlang/parts"
	"configlang/steps"
	"configlang/subsume"
	"configlang/trial"
	"configlang/value"
)

// draft is a value to be written: a struct, or anything that has none.
type draft struct {
	leaf    api.Value
	entries []entry // of a struct, one for each label
	others  api.Value
	marked  bool // whether Vals have no defaults left
}

// entry is what a struct says about a label; the label is one of the others if the presence is 0.
type entry struct {
	presence int
	draft    draft
}

// labels are those of drafts.
var labels = [...]string{"", "a", "ab", "b"}

// randomLeaf returns a random value without structs.
func randomLeaf(x *trial.Random) api.Value {
	return trial.Pick(x, one, two, ints, trial.Kind("number"), top, trial.Text("a"), trial.Kind("string"), list(trial.Longer(ints)), trial.Union(one, list(trial.Closed(two))))
}

// randomEntry returns a random entry.
func randomEntry(x *trial.Random, levels int) entry {
	return entry{trial.Pick(x, 0, api.Present, api.Required, api.Optional), randomDraft(x, levels)}
}

// randomDraft returns a random draft with a number of levels.
func randomDraft(x *trial.Random, levels int) draft {
	if levels == 1 || x.Below(4) == 0 {
		return draft{leaf: randomLeaf(x)}
	}
	d := draft{others: trial.Pick(x, top, bottom, bottom, ints, one), marked: x.Below(3) == 0}
	for range labels {
		d.entries = append(d.entries, randomEntry(x, levels-1))
	}
	return d
}

// edited returns a draft in which a few things may be different.
func edited(x *trial.Random, d draft, levels int) draft {
	switch {
	case x.Below(30) == 0:
		return randomDraft(x, levels)
	case len(d.entries) == 0:
		if x.Below(8) == 0 {
			d.leaf = randomLeaf(x)
		}
		return d
	}
	d.entries = slices.Clone(d.entries)
	for i := range d.entries {
		e := &d.entries[i]
		switch x.Below(16) {
		case 0:
			*e = randomEntry(x, levels-1)
		case 1:
			e.presence = trial.Pick(x, 0, api.Present, api.Required, api.Optional)
		default:
			e.draft = edited(x, e.draft, levels-1)
		}
	}
	if x.Below(16) == 0 {
		d.others = trial.Pick(x, top, bottom, ints, one)
	}
	return d
}

// value returns the value of a draft.
func (d draft) value() api.Value {
	return trial.Made(plain(d.written())).V
}

// written returns the value of a draft, which may not be canonical.
func (d draft) written() api.Value {
	if len(d.entries) == 0 {
		return d.leaf
	}
	var c api.StructCase
	var said []string
	for i, e := range d.entries {
		v := plain(e.draft.written())
		if d.marked {
			v.D = bottom
		}
		switch e.presence {
		case 0:
			continue
		case api.Optional:
			c.Classes = append(c.Classes, api.Class{Set: automaton.Word(labels[i]), Val: v})
		default:
			c.Fields = append(c.Fields, api.Field{Label: labels[i], Presence: e.presence, Val: v})
		}
		said = append(said, labels[i])
	}
	c.Classes = append(c.Classes, api.Class{Set: lang.Not(parts.Strings(said)), Val: plain(d.others)})
	return record(c)
}

// breaking is Breaking for valid values by its definition.
func breaking(old, new api.Value) [][]api.Step {
	scalars := func(v api.Value) api.Value { return api.Value{Scalars: v.Scalars} }
	lists := func(v api.Value) api.Value { return api.Value{Lists: v.Lists} }
	if included, _ := subsume.Includes(new, old); included {
		return nil
	}
	if old.Any || new.Any || len(old.Structs) != 1 || len(new.Structs) != 1 || value.Compare(scalars(old), scalars(new)) != 0 || value.Compare(lists(old), lists(new)) != 0 {
		return [][]api.Step{nil}
	}
	c, d := old.Structs[0], new.Structs[0]
	var l [][]api.Step
	for _, label := range compared(c, d) {
		v, p := value.View(c, label)
		w, q := value.View(d, label)
		for _, path := range breaking(v.V, w.V) {
			l = append(l, append([]api.Step{{Label: label}}, path...))
		}
		if (q == api.Present || q == api.Required) && p == api.Optional {
			l = append(l, []api.Step{{Label: label}})
		}
	}
	for i, path := range l {
		if path[0].Label == "" {
			l[i] = nil
		}
	}
	slices.SortFunc(l, steps.Compare)
	return slices.CompactFunc(l, slices.Equal)
}

// compared returns the labels for which two struct cases are compared.
func compared(old, new api.StructCase) []string {
	var l []string
	for _, f := range append(slices.Clone(old.Fields), new.Fields...) {
		l = append(l, f.Label)
	}
	fields := len(l)
	for _, k := range old.Classes {
		for _, m := range new.Classes {
			both := lang.And(k.Set, m.Set)
			for _, label := range l[:fields] {
				both = lang.Minus(both, automaton.Word(label))
			}
			if label, some := lang.Least(both); some {
				l = append(l, label)
			}
		}
	}
	return l
}
