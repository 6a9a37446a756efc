package lookup

import (
	"configlang/api"
	"configlang/scalar"
)

// kinds tells which kinds of data a value other than everything permits.
type kinds struct {
	v api.Value
}

func (k kinds) null() bool     { return k.v.Scalars.Null }
func (k kinds) boolean() bool  { return k.v.Scalars.False || k.v.Scalars.True }
func (k kinds) whole() bool    { return len(k.v.Scalars.Nums.Ints) > 0 }
func (k kinds) fraction() bool { return len(k.v.Scalars.Nums.Fracs) > 0 }
func (k kinds) text() bool     { return len(k.v.Scalars.Strs.States) > 0 }
func (k kinds) list() bool     { return len(k.v.Lists) > 0 }
func (k kinds) fields() bool   { return len(k.v.Structs) > 0 }

// permitted returns the words for the kinds of data that a valid value permits.
func permitted(v api.Value) []string {
	if v.Any {
		v = api.Value{Scalars: scalar.All(), Lists: []api.ListCase{{}}, Structs: []api.StructCase{{}}}
	}
	k := kinds{v}
	var words []string
	for _, kind := range []struct {
		word      string
		permitted func() bool
	}{
		{"null", k.null}, {"bool", k.boolean}, {"int", k.whole}, {"number", k.fraction}, {"string", k.text}, {"list", k.list}, {"struct", k.fields},
	} {
		if kind.permitted() {
			words = append(words, kind.word)
		}
	}
	return words
}
