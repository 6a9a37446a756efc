package parser

import (
	"configlang/api"
	"configlang/fixed"
	"configlang/token"
)

// rule reads a part of a text; may tells whether braces in it may be in conjunct position.
type rule func(may bool) *node

// newNode returns an expression of a kind with its parts.
func newNode(kind, at int, parts ...*node) *node {
	x := &node{Expr: api.Expr{Kind: kind, Pos: at}}
	for _, part := range parts {
		x.add(part)
	}
	return x
}

// add adds a part to an expression.
func (x *node) add(part *node) {
	x.Subs = append(x.Subs, part.Expr)
}

// loosest is the level of the operators that bind least.
const loosest = 1

// level returns how tightly a binary operator binds, 0 for other tokens.
func level(t api.Token) int {
	if t.Kind != api.TokOp {
		return 0
	}
	switch t.Text {
	case "||":
		return loosest
	case "&&":
		return 2
	case "==", "!=", "<", "<=", ">", ">=":
		return 3
	case "+", "-":
		return 4
	case "*", "/", "%":
		return 5
	}
	return 0
}

// alone reads an expression behind which at most a line end stands.
func (p *parser) alone(may bool) api.Expr {
	x := p.expression(may)
	if p.peek().Kind == api.TokLine {
		p.at++
	}
	if p.peek().Kind != api.TokEnd {
		p.fail()
	}
	return x.Expr
}

// expression reads alternatives.
func (p *parser) expression(may bool) *node {
	first := p.alternative(may)
	if !p.is("|") {
		if first.Kind == api.ExMark {
			p.fail()
		}
		return first
	}
	p.release(first)
	x := newNode(api.ExOr, first.Pos, first)
	for p.skip("|") {
		x.add(p.alternative(false))
	}
	return x
}

// alternative reads a conjunction, which may be marked.
func (p *parser) alternative(may bool) *node {
	if p.is("*") {
		return p.prefix(api.ExMark, p.conjunction)
	}
	return p.conjunction(may)
}

// conjunction reads operands of "&".
func (p *parser) conjunction(may bool) *node {
	x := p.operation(loosest, may)
	for p.skip("&") {
		y := p.operation(loosest, may)
		both := newNode(api.ExAnd, x.Pos, x, y)
		both.bound = x.bound || y.bound
		x = both
	}
	return x
}

// operation reads operands of binary operators that bind at least as tightly as a level.
func (p *parser) operation(least int, may bool) *node {
	x := p.unary(may)
	for {
		l := level(p.peek())
		if l < least {
			return x
		}
		p.release(x)
		op := p.next().Text
		x = newNode(api.ExBinary, x.Pos, x, p.operation(l+1, false))
		x.Text = op
	}
}

// unary reads an operand with the operators in front of it.
func (p *parser) unary(may bool) *node {
	if t := p.peek(); t.Kind == api.TokOp {
		switch t.Text {
		case "-", "!":
			return p.prefix(api.ExUnary, p.unary)
		case "<", "<=", ">", ">=", "!=", "=~", "!~":
			return p.prefix(api.ExBound, p.unary)
		}
	}
	return p.postfix(may)
}

// prefix reads an operator and its operand, which is not in conjunct position.
func (p *parser) prefix(kind int, operand rule) *node {
	op := p.next()
	x := newNode(kind, op.Pos, operand(false))
	if kind != api.ExMark {
		x.Text = op.Text
	}
	return x
}

// postfix reads a primary with the selections behind it.
func (p *parser) postfix(may bool) *node {
	x := p.primary(may)
	for {
		switch {
		case p.is("."):
			p.release(x)
			p.at++
			x = newNode(api.ExSelect, x.Pos, x)
			x.Text = p.label()
		case p.is("["):
			p.release(x)
			x = newNode(api.ExIndex, x.Pos, x, p.enclosed("[", "]", false, p.expression))
		default:
			return x
		}
	}
}

// release ends the parser if the next token puts x out of conjunct position and x must stay in it.
func (p *parser) release(x *node) {
	if x.bound {
		p.fail()
	}
}

// enclosed reads what stands between two operators, where line ends are ignored.
func (p *parser) enclosed(from, to string, may bool, inner rule) *node {
	outside := p.lines
	p.expect(from)
	p.lines = false
	x := inner(may)
	p.expect(to)
	p.lines = outside
	return x
}

// primary reads a primary.
func (p *parser) primary(may bool) *node {
	at := p.peek().Pos
	switch {
	case p.is("("):
		return p.enclosed("(", ")", may, p.expression)
	case p.is("{"):
		return p.braces(may)
	case p.is("["):
		x := p.enclosed("[", "]", false, p.items)
		x.Pos = at
		return x
	case isName(p.peek()):
		return p.reference()
	}
	return p.constant()
}

// reference reads a name, or a call of a function.
func (p *parser) reference() *node {
	at := p.peek().Pos
	name := p.name()
	x := newNode(api.ExRef, at)
	if p.is("(") {
		x = p.enclosed("(", ")", false, p.arguments)
	}
	x.Text = name
	x.Pos = at
	return x
}

// arguments reads the arguments of a function.
func (p *parser) arguments(bool) *node {
	x := newNode(api.ExCall, 0)
	if p.is(")") {
		return x
	}
	x.add(p.expression(false))
	for p.skip(",") {
		x.add(p.expression(false))
	}
	return x
}

// items reads the items of a list, and its rest.
func (p *parser) items(bool) *node {
	x := newNode(api.ExList, 0)
	if p.is("]") {
		return x
	}
	for {
		at := p.peek().Pos
		if p.skip("...") {
			x.Num = 1
			x.add(p.rest(at))
			return x
		}
		x.add(p.item())
		if !p.skip(",") {
			return x
		}
	}
}

// rest reads what follows the dots of a list, which stand at an offset.
func (p *parser) rest(at int) *node {
	if p.is("]") {
		return newNode(api.ExTop, at)
	}
	return p.expression(false)
}

// item reads an item of a list.
func (p *parser) item() *node {
	if !p.isWord("for") {
		return p.expression(false)
	}
	x := newNode(api.ExEach, p.peek().Pos)
	x.Names = p.loopNames()
	x.add(p.expression(false))
	if p.isWord("if") {
		p.at++
		x.add(p.expression(false))
	}
	p.expect(":")
	x.add(p.expression(false))
	return x
}

// braces reads a struct.
func (p *parser) braces(may bool) *node {
	x := newNode(api.ExStruct, p.peek().Pos)
	b := p.block(may)
	x.Decls, x.Tail, x.bound = b.decls, b.tail, b.bound
	return x
}

// constant reads a primary that is one token.
func (p *parser) constant() *node {
	t := p.peek()
	x := newNode(0, t.Pos)
	switch t.Kind {
	case api.TokNumber:
		x.Kind = api.ExNumber
		x.Num, _ = fixed.Parse(t.Text)
	case api.TokString:
		x.Kind = api.ExString
		x.Text = t.Text
	case api.TokInterp:
		x.Kind = api.ExInterp
		x.Subs = p.interpolation(t)
	case api.TokIdent, api.TokOp:
		x.word(t.Text)
	}
	if x.Kind == 0 {
		p.fail()
	}
	p.at++
	return x
}

// word makes x the expression that is one word or operator, if there is one.
func (x *node) word(s string) {
	switch s {
	case "null":
		x.Kind = api.ExNull
	case "false":
		x.Kind = api.ExBool
	case "true":
		x.Kind = api.ExBool
		x.Num = 1
	case "bool", "int", "number", "string":
		x.Kind = api.ExType
		x.Text = s
	case "_":
		x.Kind = api.ExTop
	case "_|_":
		x.Kind = api.ExBottom
	}
}

// interpolation returns the parts of the next token, which is t.
func (p *parser) interpolation(t api.Token) []api.Expr {
	parts, _ := token.Interp(t.Text)
	var l []api.Expr
	for _, part := range parts {
		at := t.Pos + 1 + part.Pos
		e := api.Expr{Kind: api.ExString, Text: part.Text, Pos: at}
		if part.Code {
			code, ok := interpolated(part.Text, at)
			if !ok {
				p.fail()
			}
			e = code
		}
		l = append(l, e)
	}
	return l
}

// interpolated returns the expression that stands as code at an offset of the source text, false if it is none.
func interpolated(code string, at int) (api.Expr, bool) {
	tokens, f := token.Scan(code)
	if f.Errno != api.OK {
		return api.Expr{}, false
	}
	for i := range tokens {
		if tokens[i].Kind == api.TokComment {
			return api.Expr{}, false
		}
		tokens[i].Pos += at
	}
	p := newParser(code, tokens)
	var e api.Expr
	f = p.run(func() { e = p.alone(false) })
	return e, f.Errno == api.OK
}
