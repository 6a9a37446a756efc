package trial

import (
	"slices"

	"configlang/api"
	"configlang/lang"
	"configlang/scalar"
	"configlang/value"
)

// Data returns random data that random values often have as an instance.
func Data(x *Random, levels int) api.Data {
	switch n := x.Below(8); {
	case n == 0:
		return api.Data{Kind: api.Null}
	case n == 1:
		return api.Data{Kind: api.Bool, Num: int64(x.Below(2))}
	case n == 2:
		return api.Data{Kind: api.Number, Num: int64(x.Below(9)-4) * 5000}
	case n < 5 || levels < 2:
		return api.Data{Kind: api.String, Str: Pick(x, Labels()...)}
	case n < 6:
		d := api.Data{Kind: api.List}
		for range x.Below(3) {
			d.Items = append(d.Items, Data(x, levels-1))
		}
		return d
	}
	d := api.Data{Kind: api.Struct}
	for _, s := range Labels() {
		if x.Below(8) == 0 {
			d.Members = append(d.Members, api.Member{Label: s, Data: Data(x, levels-1)})
		}
	}
	return d
}

// DataNear returns random data of about the form of a valid value; often, but not always, it is an instance.
func DataNear(x *Random, v api.Value) api.Data {
	switch n := x.Below(8); {
	case v.Any, n == 0:
		return Data(x, 3)
	case n < 4 && len(v.Lists) > 0:
		c := Pick(x, v.Lists...)
		d := api.Data{Kind: api.List}
		for i := range len(c.Items) + x.Below(3)*len(c.Rest) {
			u, _ := value.Item(c, i)
			d.Items = append(d.Items, DataNear(x, u.V))
		}
		return d
	case len(v.Structs) > 0:
		return nearStruct(x, Pick(x, v.Structs...))
	}
	if d, ok := scalar.Least(v.Scalars); ok {
		return d
	}
	return Data(x, 1)
}

// nearStruct is DataNear for a struct case.
func nearStruct(x *Random, c api.StructCase) api.Data {
	var labels []string
	for _, f := range c.Fields {
		if x.Below(10) > 0 {
			labels = append(labels, f.Label)
		}
	}
	for _, k := range c.Classes {
		for _, s := range lang.Words(k.Set, 2) {
			if !value.IsBottom(k.Val.V) && x.Below(3) == 0 || x.Below(12) == 0 {
				labels = append(labels, s)
			}
		}
	}
	slices.Sort(labels)
	d := api.Data{Kind: api.Struct}
	for _, label := range labels {
		u, _ := value.View(c, label)
		d.Members = append(d.Members, api.Member{Label: label, Data: DataNear(x, u.V)})
	}
	return d
}

// Has reports whether data is an instance of a valid value, by its definition in layer 18.
func Has(v api.Value, d api.Data) bool {
	if v.Any {
		return true
	}
	switch d.Kind {
	case api.List:
		return slices.ContainsFunc(v.Lists, func(c api.ListCase) bool { return hasList(c, d) })
	case api.Struct:
		return slices.ContainsFunc(v.Structs, func(c api.StructCase) bool { return hasStruct(c, d) })
	}
	return scalar.Has(v.Scalars, d)
}

// hasList reports whether a list is an instance of a list case.
func hasList(c api.ListCase, d api.Data) bool {
	if len(d.Items) < len(c.Items) {
		return false
	}
	for i, item := range d.Items {
		if v, ok := value.Item(c, i); !ok || !Has(v.V, item) {
			return false
		}
	}
	return true
}

// hasStruct reports whether a struct is an instance of a struct case.
func hasStruct(c api.StructCase, d api.Data) bool {
	for _, f := range c.Fields {
		if !slices.ContainsFunc(d.Members, func(m api.Member) bool { return m.Label == f.Label }) {
			return false
		}
	}
	for _, m := range d.Members {
		if v, _ := value.View(c, m.Label); !Has(v.V, m.Data) {
			return false
		}
	}
	return true
}
