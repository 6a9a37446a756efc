package properties

import (
	"strconv"
	"strings"

	"configlang/api"
	"configlang/data"
	"configlang/quote"
	"configlang/steps"
)

const (
	places    = 4  // decimal places of a unit
	maxNumber = 17 // bytes of the text of a number
)

// readEntry returns the entry that a line denotes.
func readEntry(line string) (Entry, bool) {
	for at := 0; ; at++ {
		n := strings.Index(line[at:], equals)
		if n < 0 {
			return Entry{}, false
		}
		at += n
		d, ok := readLeaf(line[at+len(equals):])
		if !ok {
			continue
		}
		path, f := steps.Parse(line[:at])
		return Entry{Path: path, Data: d}, f.Errno == api.OK
	}
}

// readLeaf returns the scalar, or the empty list or struct, with a text.
func readLeaf(s string) (api.Data, bool) {
	d := guess(s)
	// guess accepts more than one form of a number and of a string: only that of data.Text is permitted.
	text, e := data.Text(d)
	return d, e == api.OK && text == s
}

// guess returns the only data that can have a text, if it is a leaf.
func guess(s string) api.Data {
	switch s {
	case "null":
		return api.Data{Kind: api.Null}
	case "false":
		return api.Data{Kind: api.Bool}
	case "true":
		return api.Data{Kind: api.Bool, Num: 1}
	case "[]":
		return api.Data{Kind: api.List}
	case "{}":
		return api.Data{Kind: api.Struct}
	}
	if strings.HasPrefix(s, `"`) {
		text, _ := quote.Unquote(s)
		return api.Data{Kind: api.String, Str: text}
	}
	return api.Data{Kind: api.Number, Num: units(s)}
}

// units returns the units of a number; anything if s is none.
func units(s string) int64 {
	unsigned, minus := strings.CutPrefix(s, "-")
	whole, part, _ := strings.Cut(unsigned, ".")
	if len(s) > maxNumber || len(part) > places {
		return 0
	}
	u, _ := strconv.ParseInt(whole+part+strings.Repeat("0", places-len(part)), 10, 64)
	if minus {
		u = -u
	}
	return u
}
