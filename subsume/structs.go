package subsume

import (
	"cmp"
	"slices"

	"configlang/api"
	"configlang/lang"
	"configlang/parts"
)

// fields returns a struct that is an instance of all cases of in, and of none of out, and has at most a number of levels; false if there is none.
func fields(in, out []api.StructCase, levels int) (api.Data, bool) {
	own := named(slices.Concat(in, out))
	left, few, more := unnamed(in, out, own, levels-1)
	labels := distinct(append(own, few...))
	choices, ok := newSearch(places(in, left, labels), levels-1).run(len(left))
	if !ok {
		return api.Data{}, false
	}
	d := api.Data{Kind: api.Struct}
	used := map[string]bool{}
	add := func(label string, member api.Data) {
		used[label] = true
		d.Members = append(d.Members, api.Member{Label: label, Data: member})
	}
	for i, c := range choices {
		if !c.lacking {
			add(labels[i], c.data)
		}
	}
	for _, m := range more {
		i := slices.IndexFunc(m.labels, func(label string) bool { return !used[label] })
		add(m.labels[i], m.data)
	}
	slices.SortFunc(d.Members, func(m, n api.Member) int { return cmp.Compare(m.Label, n.Label) })
	return d, true
}

// named returns the labels of the fields of some cases.
func named(l []api.StructCase) []string {
	var labels []string
	for _, c := range l {
		for _, f := range c.Fields {
			labels = append(labels, f.Label)
		}
	}
	return distinct(labels)
}

// distinct returns labels in ascending order, each once.
func distinct(labels []string) []string {
	slices.Sort(labels)
	return slices.Compact(labels)
}

// member is data under one of several labels.
type member struct {
	labels []string
	data   api.Data
}

// unnamed finds out which cases of out can be violated by members whose labels are not among those of fields. Where there are at least as many labels for this as cases, a case needs no further thought: each other case needs one of them at most, so that one is left, and a further member leaves violations of other cases as they are. The results are the cases that do need thought, the few labels at which such members can violate them, and the members that violate the others.
func unnamed(in, out []api.StructCase, fields []string, levels int) ([]api.StructCase, []string, []member) {
	if len(out) == 0 {
		return nil, nil, nil
	}
	blocks := divided(in, lang.Not(parts.Strings(fields)))
	var left []api.StructCase
	var few []string
	var more []member
cases:
	for _, c := range out {
		var labels []string
		for _, b := range blocks {
			for _, k := range c.Classes {
				d, ok := b.region.minus(k.Val.V).least(levels)
				if !ok {
					continue
				}
				some := words(lang.And(b.set, k.Set), len(out))
				if len(some) == len(out) {
					more = append(more, member{some, d})
					continue cases
				}
				labels = append(labels, some...)
			}
		}
		left = append(left, c)
		few = append(few, labels...)
	}
	return left, few, more
}

// block is labels about which all of some cases say the same.
type block struct {
	set    api.Lang
	region region
}

// divided divides a set of labels, none of which is that of a field, by what some cases say about them.
func divided(l []api.StructCase, set api.Lang) []block {
	blocks := []block{{set, everything()}}
	for _, c := range l {
		var finer []block
		for _, b := range blocks {
			for _, k := range c.Classes {
				if both := lang.And(b.set, k.Set); len(both.States) > 0 {
					finer = append(finer, block{both, b.region.and(k.Val.V)})
				}
			}
		}
		blocks = finer
	}
	return blocks
}

// words returns the n least strings of a set, or all if there are fewer, also if that is more than lang.Words returns at once.
func words(set api.Lang, n int) []string {
	var l []string
	for len(l) < n {
		some := lang.Words(set, n-len(l))
		if len(some) == 0 {
			break
		}
		l = append(l, some...)
		set = lang.Minus(set, parts.Strings(some))
	}
	return l
}

// places returns the places of some labels.
func places(in, out []api.StructCase, labels []string) []place {
	return parts.Each(labels, func(label string) place {
		p := place{lacking: true}
		for _, c := range in {
			v, presence := parts.View(c, label)
			p.in = append(p.in, v.V)
			p.lacking = p.lacking && presence == api.Optional
		}
		for _, c := range out {
			v, presence := parts.View(c, label)
			p.views = append(p.views, view{value: v.V, must: presence < api.Optional})
		}
		return p
	})
}
