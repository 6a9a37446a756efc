package regex

import (
	"configlang/api"
	"configlang/byteset"
)

// syntaxError is the offset at which a text cannot be continued; it ends the parser by a panic.
type syntaxError struct {
	at int
}

// parsed is an expression and the number of its levels; if there are too many, it is left out.
type parsed struct {
	regex  api.Regex
	levels int
}

// parser reads a text from an offset on.
type parser struct {
	text string
	at   int
}

// Parse returns the expression that a text denotes.
func Parse(s string) (r api.Regex, f api.Fault) {
	if len(s) > maxText {
		return api.Regex{}, api.Fault{Errno: api.ErrSize}
	}
	defer func() {
		if e, ok := recover().(syntaxError); ok {
			r, f = api.Regex{}, api.Fault{Errno: api.ErrSyntax, At: e.at}
		}
	}()
	p := &parser{text: s}
	whole := p.alternatives()
	if p.at < len(s) {
		p.fail()
	}
	if whole.levels > api.MaxDepth {
		return api.Regex{}, api.Fault{Errno: api.ErrDepth}
	}
	return whole.regex, api.Fault{}
}

// fail ends the parser at the next byte.
func (p *parser) fail() {
	panic(syntaxError{at: p.at})
}

// peek returns the next byte; at the end it returns 0, which no text contains.
func (p *parser) peek() byte {
	if p.at == len(p.text) {
		return 0
	}
	return p.text[p.at]
}

// skip skips the next byte if it is c.
func (p *parser) skip(c byte) bool {
	if p.peek() != c {
		return false
	}
	p.at++
	return true
}

// expect skips the next byte, which must be c.
func (p *parser) expect(c byte) {
	if !p.skip(c) {
		p.fail()
	}
}

// alternatives reads concatenations up to the end or a closing parenthesis.
func (p *parser) alternatives() parsed {
	another := func() bool { return p.skip('|') }
	more := func() bool { return p.at < len(p.text) && p.peek() != '|' && p.peek() != ')' }
	concatenation := func() parsed { return group(api.Cat, list(p.piece, more)) }
	return group(api.Alt, list(concatenation, another))
}

// piece reads an atom with what follows it.
func (p *parser) piece() parsed {
	x := p.atom()
	for {
		switch {
		case p.skip('*'):
			x = star(x)
		case p.skip('+'):
			repeated := parsed{regex: clone(x.regex), levels: x.levels}
			x = group(api.Cat, []parsed{x, star(repeated)})
		case p.skip('?'):
			x = group(api.Alt, []parsed{x, single(api.Regex{Kind: api.Empty})})
		default:
			return x
		}
	}
}

// atom reads an atom.
func (p *parser) atom() parsed {
	switch {
	case p.skip('('):
		return p.inParentheses()
	case p.skip('['):
		return single(p.class())
	case p.skip('.'):
		return oneOf(byteset.Of(0, 255))
	case p.skip('\\'):
		if s, ok := classOf(p.peek()); ok {
			p.at++
			return oneOf(s)
		}
		b := p.escape(0)
		return oneOf(byteset.Of(b, b))
	case plain(p.peek()):
		b := p.peek()
		p.at++
		return oneOf(byteset.Of(b, b))
	}
	p.fail()
	return parsed{}
}

// inParentheses reads what follows an opening parenthesis.
func (p *parser) inParentheses() parsed {
	if p.skip(')') {
		return single(api.Regex{Kind: api.Empty})
	}
	x := p.alternatives()
	p.expect(')')
	return x
}

// class reads what follows an opening bracket.
func (p *parser) class() api.Regex {
	if p.skip(']') {
		return api.Regex{Kind: api.Nothing}
	}
	complement := p.skip('^')
	set := p.item()
	for !p.skip(']') {
		set = byteset.Or(set, p.item())
	}
	if complement {
		set = byteset.Not(set)
	}
	return api.Regex{Kind: api.OneOf, Set: set}
}

// item reads a byte or a range in brackets.
func (p *parser) item() api.Bytes {
	lo := p.member(0)
	hi := lo
	if p.skip('-') {
		hi = p.member(lo)
	}
	return byteset.Of(lo, hi)
}

// member reads a byte in brackets, which must be at least least.
func (p *parser) member(least byte) byte {
	if p.skip('\\') {
		return p.escape(least)
	}
	b := p.peek()
	if !plain(b) || b == '^' || b == '-' || b < least {
		p.fail()
	}
	p.at++
	return b
}

// escape reads what follows a backslash and denotes one byte, which must be at least least.
func (p *parser) escape(least byte) byte {
	if p.skip('x') {
		return p.hexadecimal(least)
	}
	b, ok := escaped(p.peek())
	if !ok || b < least {
		p.fail()
	}
	p.at++
	return b
}

// hexadecimal reads two digits of a byte, which must be at least least.
func (p *parser) hexadecimal(least byte) byte {
	hi := p.digit(least >> 4)
	lo := byte(0)
	if hi == least>>4 {
		lo = least & 15
	}
	return hi<<4 | p.digit(lo)
}

// digit reads a hexadecimal digit, which must be at least least.
func (p *parser) digit(least byte) byte {
	c := p.peek()
	d := byte(0)
	switch {
	case '0' <= c && c <= '9':
		d = c - '0'
	case 'a' <= c && c <= 'f':
		d = c - 'a' + 10
	case 'A' <= c && c <= 'F':
		d = c - 'A' + 10
	default:
		p.fail()
	}
	if d < least {
		p.fail()
	}
	p.at++
	return d
}

// list reads one item, and further ones as long as there are more.
func list(item func() parsed, more func() bool) []parsed {
	l := []parsed{item()}
	for more() {
		l = append(l, item())
	}
	return l
}

// single returns an expression of one level.
func single(r api.Regex) parsed {
	return parsed{regex: r, levels: 1}
}

// oneOf returns the expression of a byte of a set.
func oneOf(s api.Bytes) parsed {
	return single(api.Regex{Kind: api.OneOf, Set: s})
}

// star returns the repetitions of x.
func star(x parsed) parsed {
	return build(api.Star, []parsed{x})
}

// group returns an expression of a kind for at least two parts, or the only part itself.
func group(kind int, parts []parsed) parsed {
	if len(parts) == 1 {
		return parts[0]
	}
	return build(kind, parts)
}

// build returns an expression of a kind with its parts.
func build(kind int, parts []parsed) parsed {
	x := parsed{regex: api.Regex{Kind: kind}}
	for _, part := range parts {
		x.regex.Subs = append(x.regex.Subs, part.regex)
		x.levels = max(x.levels, part.levels+1)
	}
	if x.levels > api.MaxDepth {
		// Each "+" doubles an expression: one that is nested too deeply must not become any larger.
		x.regex = api.Regex{}
	}
	return x
}
