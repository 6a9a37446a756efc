package jsontext

import (
	"strings"

	"configlang/api"
	"configlang/data"
	"configlang/fixed"
)

// maxPlaces is the greatest number of digits behind the point of a number.
const maxPlaces = 4

// parser reads a text from an offset on; a fault ends it by a panic.
type parser struct {
	text string
	at   int
}

// Parse returns the data that a JSON text denotes.
func Parse(s string) (d api.Data, f api.Fault) {
	if len(s) > api.MaxText {
		return api.Data{}, api.Fault{Errno: api.ErrSize}
	}
	defer func() {
		if fault, ok := recover().(api.Fault); ok {
			d, f = api.Data{}, fault
		}
	}()
	p := &parser{text: s}
	p.blanks()
	read := p.value()
	p.blanks()
	if p.at < len(s) {
		p.fail()
	}
	// Labels are different, and numbers valid: the data may only be nested too deeply.
	made, e := data.Make(read)
	if e != api.OK {
		return api.Data{}, api.Fault{Errno: e}
	}
	return made, api.Fault{}
}

// fail ends the parser at the next byte.
func (p *parser) fail() {
	panic(api.Fault{Errno: api.ErrText, At: p.at})
}

// peek returns the next byte; at the end it returns 0, which no text contains.
func (p *parser) peek() byte {
	if p.at == len(p.text) {
		return 0
	}
	return p.text[p.at]
}

// skip skips the next byte if it is c.
func (p *parser) skip(c byte) bool {
	if p.peek() != c {
		return false
	}
	p.at++
	return true
}

// expect skips the bytes of s, which must come next.
func (p *parser) expect(s string) {
	for i := range len(s) {
		if !p.skip(s[i]) {
			p.fail()
		}
	}
}

// blanks skips blanks.
func (p *parser) blanks() {
	for p.skip(' ') || p.skip('\t') || p.skip('\n') || p.skip('\r') {
	}
}

// value reads data.
func (p *parser) value() api.Data {
	switch c := p.peek(); {
	case c == 'n':
		p.expect("null")
		return api.Data{Kind: api.Null}
	case c == 't':
		p.expect("true")
		return api.Data{Kind: api.Bool, Num: 1}
	case c == 'f':
		p.expect("false")
		return api.Data{Kind: api.Bool}
	case c == '"':
		return api.Data{Kind: api.String, Str: p.quoted()}
	case c == '[':
		return p.list()
	case c == '{':
		return p.object()
	}
	return p.number()
}

// list reads a list.
func (p *parser) list() api.Data {
	d := api.Data{Kind: api.List}
	p.sequence("[", ']', func() {
		d.Items = append(d.Items, p.value())
	})
	return d
}

// object reads a struct.
func (p *parser) object() api.Data {
	d := api.Data{Kind: api.Struct}
	seen := map[string]bool{}
	p.sequence("{", '}', func() {
		start := p.at
		label := p.quoted()
		if seen[label] {
			panic(api.Fault{Errno: api.ErrTwice, At: start})
		}
		seen[label] = true
		p.blanks()
		p.expect(":")
		p.blanks()
		d.Members = append(d.Members, api.Member{Label: label, Data: p.value()})
	})
	return d
}

// sequence reads elements that are separated by commas, between brackets.
func (p *parser) sequence(opening string, closing byte, element func()) {
	p.expect(opening)
	p.blanks()
	if p.skip(closing) {
		return
	}
	element()
	p.blanks()
	for !p.skip(closing) {
		p.expect(",")
		p.blanks()
		element()
		p.blanks()
	}
}

// number reads a number.
func (p *parser) number() api.Data {
	start := p.at
	minus := p.skip('-')
	whole := "0"
	if !p.skip('0') {
		whole = p.digits()
	}
	places := ""
	if p.skip('.') {
		places = p.digits()
	}
	// fixed.Parse accepts only what fixed.Text writes: no zeros at the end, and no sign of 0.
	canonical := whole
	if rest := strings.TrimRight(places, "0"); rest != "" {
		canonical += "." + rest
	}
	if minus && canonical != "0" {
		canonical = "-" + canonical
	}
	u, e := fixed.Parse(canonical)
	if e != api.OK || len(places) > maxPlaces {
		panic(api.Fault{Errno: api.ErrRange, At: start})
	}
	return api.Data{Kind: api.Number, Num: u}
}

// digits reads one or more digits.
func (p *parser) digits() string {
	start := p.at
	for '0' <= p.peek() && p.peek() <= '9' {
		p.at++
	}
	if p.at == start {
		p.fail()
	}
	return p.text[start:p.at]
}

// quoted reads a string.
func (p *parser) quoted() string {
	var b strings.Builder
	p.expect(`"`)
	for !p.skip('"') {
		c := p.peek()
		if c < 32 || c > 126 {
			p.fail()
		}
		p.at++
		if c == '\\' {
			c = p.escape()
		}
		b.WriteByte(c)
	}
	return b.String()
}

// escape reads what follows a backslash.
func (p *parser) escape() byte {
	c := p.peek()
	switch c {
	case '"', '\\', '/':
	case 'b':
		c = '\b'
	case 'f':
		c = '\f'
	case 'n':
		c = '\n'
	case 'r':
		c = '\r'
	case 't':
		c = '\t'
	case 'u':
		p.expect("u00")
		return p.digit()<<4 | p.digit()
	default:
		p.fail()
	}
	p.at++
	return c
}

// digit reads a hexadecimal digit of either case.
func (p *parser) digit() byte {
	c := p.peek()
	if 'A' <= c && c <= 'F' {
		c += 'a' - 'A'
	}
	n := strings.IndexByte(hexadecimal, c)
	if n < 0 {
		p.fail()
	}
	p.at++
	return byte(n)
}
