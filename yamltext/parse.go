package yamltext

import (
	"iter"
	"strings"

	"configlang/api"
	"configlang/data"
	"configlang/fixed"
	"configlang/quote"
)

// entry is what a line says about an item or a member.
type entry struct {
	kind  int // api.List for an item, api.Struct for a member
	label string
	data  api.Data
	open  bool // the data follows in further lines
}

// block is a list or a struct to which further lines may add.
type block struct {
	indent int
	data   api.Data
	seen   map[string]bool // the labels of the struct
}

// reader builds data line by line.
type reader struct {
	blocks []block // each one is the data of the last entry of the one before
	open   bool    // the last line begins data that follows in further lines
	whole  bool    // the only line is the whole text
	data   api.Data
}

// Parse returns the data that a text denotes.
func Parse(s string) (api.Data, api.Fault) {
	if len(s) > api.MaxText {
		return api.Data{}, api.Fault{Errno: api.ErrSize}
	}
	r := &reader{}
	last := 0
	for n, line := range lines(s) {
		last = n
		text := strings.TrimLeft(line, " ")
		if text == "" || text[0] == '#' {
			continue
		}
		if e := r.line(len(line)-len(text), text); e != api.OK {
			return api.Data{}, api.Fault{Errno: e, At: n}
		}
	}
	if r.open || !r.whole && len(r.blocks) == 0 {
		return api.Data{}, api.Fault{Errno: api.ErrText, At: last + 1}
	}
	for len(r.blocks) > 0 {
		r.close()
	}
	// Labels are different: the data may only be nested too deeply.
	d, e := data.Make(r.data)
	if e != api.OK {
		return api.Data{}, api.Fault{Errno: e}
	}
	return d, api.Fault{}
}

// lines yields the lines of a text with their numbers.
func lines(s string) iter.Seq2[int, string] {
	return func(yield func(int, string) bool) {
		rest := s
		for n := 1; rest != ""; n++ {
			var line string
			line, rest, _ = strings.Cut(rest, "\n")
			if !yield(n, line) {
				return
			}
		}
	}
}

// line adds a line that is not ignored.
func (r *reader) line(indent int, text string) api.Errno {
	begun := r.whole || len(r.blocks) > 0
	if d, ok := readShort(text); ok && !begun && indent == 0 {
		r.data, r.whole = d, true
		return api.OK
	}
	x, ok := readEntry(text)
	if !ok || r.whole {
		return api.ErrText
	}
	switch {
	case !begun && indent == 0, r.open && indent == r.top().indent+step:
		r.blocks = append(r.blocks, block{indent: indent, data: api.Data{Kind: x.kind}, seen: map[string]bool{}})
	case !begun, r.open, !r.closeTo(indent):
		return api.ErrText
	}
	return r.add(x)
}

// closeTo closes blocks up to the one with an indentation, if there is one.
func (r *reader) closeTo(indent int) bool {
closing:
	for {
		switch top := r.top(); {
		case top.indent == indent:
			break closing
		case top.indent < indent:
			return false
		}
		r.close()
	}
	return true
}

// close ends the last block, which is the data of the last entry of the one before, or the whole data.
func (r *reader) close() {
	d := r.top().data
	r.blocks = r.blocks[:len(r.blocks)-1]
	if len(r.blocks) == 0 {
		r.data = d
		return
	}
	switch above := &r.top().data; above.Kind {
	case api.List:
		above.Items[len(above.Items)-1] = d
	case api.Struct:
		above.Members[len(above.Members)-1].Data = d
	}
}

// add adds an entry to the last block.
func (r *reader) add(x entry) api.Errno {
	top := r.top()
	switch {
	case x.kind != top.data.Kind:
		return api.ErrText
	case x.kind == api.List:
		top.data.Items = append(top.data.Items, x.data)
	case top.seen[x.label]:
		return api.ErrTwice
	default:
		top.seen[x.label] = true
		top.data.Members = append(top.data.Members, api.Member{Label: x.label, Data: x.data})
	}
	r.open = x.open
	return api.OK
}

// top returns the last block.
func (r *reader) top() *block {
	return &r.blocks[len(r.blocks)-1]
}

// readEntry returns the entry that a line begins, behind its indentation.
func readEntry(s string) (entry, bool) {
	x := entry{kind: api.List}
	rest, ok := strings.CutPrefix(s, "-")
	if !ok {
		x.kind = api.Struct
		n := labelEnd(s)
		x.label, ok = readString(s[:n])
		if !ok || n == len(s) {
			return entry{}, false
		}
		rest = s[n+1:]
	}
	if rest == "" {
		x.open = true
		return x, true
	}
	rest, ok = strings.CutPrefix(rest, " ")
	if !ok {
		return entry{}, false
	}
	x.data, ok = readShort(rest)
	return x, ok
}

// labelEnd returns the offset of the first colon that is not in quotes, or the length of s if there is none.
func labelEnd(s string) int {
	quoted := false
	for i := 0; i < len(s); i++ {
		switch {
		case s[i] == '"':
			quoted = !quoted
		case s[i] == '\\' && quoted:
			i++
		case s[i] == ':' && !quoted:
			return i
		}
	}
	return len(s)
}

// readShort returns the data with a short text.
func readShort(s string) (api.Data, bool) {
	switch s {
	case "[]":
		return api.Data{Kind: api.List}, true
	case "{}":
		return api.Data{Kind: api.Struct}, true
	case "null":
		return api.Data{Kind: api.Null}, true
	case "false":
		return api.Data{Kind: api.Bool}, true
	case "true":
		return api.Data{Kind: api.Bool, Num: 1}, true
	}
	if u, e := fixed.Parse(s); e == api.OK {
		return api.Data{Kind: api.Number, Num: u}, true
	}
	text, ok := readString(s)
	if !ok {
		return api.Data{}, false
	}
	return api.Data{Kind: api.String, Str: text}, true
}

// readString returns the string with a text.
func readString(s string) (string, bool) {
	// There is only one text of a string: that which stringText writes.
	text, f := quote.Unlabel(s)
	if f.Errno != api.OK || stringText(text) != s {
		return "", false
	}
	return text, true
}
