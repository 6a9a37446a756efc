package parser

import (
	"strings"

	"configlang/api"
	"configlang/quote"
	"configlang/regex"
)

// block is declarations with the comments behind them. It is bound if it must be in a struct in conjunct position.
type block struct {
	decls []api.Decl
	tail  []string
	bound bool
}

// file reads a file.
func (p *parser) file() api.File {
	var f api.File
	lead := p.comments()
	if p.isWord("package") {
		p.at++
		f.Package = p.name()
		p.separator()
		lead = append(lead, p.comments()...)
	}
	for p.isWord("import") {
		f.Imports = append(f.Imports, p.importOne())
	}
	b := p.declarations(true, lead, p.isEnd)
	f.Decls, f.Tail = b.decls, b.tail
	return f
}

// importOne reads an import.
func (p *parser) importOne() api.Import {
	i := api.Import{Pos: p.next().Pos}
	if p.peek().Kind == api.TokIdent {
		i.Name = p.name()
	}
	t := p.peek()
	if t.Kind != api.TokString {
		p.fail()
	}
	i.Path = t.Text
	if i.Name == "" {
		i.Name = i.Path[strings.LastIndexByte(i.Path, '/')+1:]
		if !quote.Ident(i.Name) {
			p.fail()
		}
	}
	p.at++
	p.separator()
	return i
}

// separator reads one separator.
func (p *parser) separator() {
	if !isSeparator(p.peek()) {
		p.fail()
	}
	p.at++
}

// comments reads comments on lines of their own.
func (p *parser) comments() []string {
	var l []string
	for p.peek().Kind == api.TokComment {
		if !p.ownLine() {
			p.fail()
		}
		l = append(l, p.next().Text)
	}
	return l
}

// ownLine reports whether no token stands on the line of the next one before it.
func (p *parser) ownLine() bool {
	if p.at == 0 || p.tokens[p.at-1].Kind == api.TokLine {
		return true
	}
	return p.feedBehind(p.tokens[p.at-1].End)
}

// feedBehind reports whether there is a line feed between an offset and the next token.
func (p *parser) feedBehind(at int) bool {
	return strings.Contains(p.text[at:p.tokens[p.at].Pos], "\n")
}

// isEnd reports whether the text ends here.
func (p *parser) isEnd() bool {
	return p.peek().Kind == api.TokEnd
}

// isBrace reports whether the braces end here.
func (p *parser) isBrace() bool {
	return p.is("}")
}

// block reads declarations in braces; scope tells whether the braces may be in conjunct position.
func (p *parser) block(scope bool) block {
	outside := p.lines
	p.expect("{")
	p.lines = true
	b := p.declarations(scope, nil, p.isBrace)
	p.at++
	p.lines = outside
	return b
}

// declarations reads declarations up to an end, behind comments that belong to the first one.
func (p *parser) declarations(scope bool, lead []string, ends func() bool) block {
	var b block
	lead, separated := p.between(nil, lead)
	for !ends() {
		if len(b.decls) > 0 && !separated {
			p.fail()
		}
		d, bound := p.declaration(scope)
		d.Lead = lead
		b.bound = b.bound || bound
		lead, separated = p.between(d, nil)
		b.decls = append(b.decls, *d)
	}
	b.tail = lead
	return b
}

// between reads separators and comments behind a declaration (or at the beginning, where there is none). It returns comments on lines of their own behind those of lead, and whether there is a separator.
func (p *parser) between(before *api.Decl, lead []string) ([]string, bool) {
	end := 0
	if before != nil {
		end = p.tokens[p.at-1].End
	}
	separated := false
	for {
		t := p.peek()
		switch {
		case isSeparator(t):
			separated = true
		case t.Kind != api.TokComment:
			return lead, separated
		case p.ownLine():
			lead = append(lead, t.Text)
		case before != nil && !p.feedBehind(end):
			before.Trail = t.Text
		default:
			p.fail()
		}
		p.at++
	}
}

// declaration reads a declaration, and reports whether it must be in a struct in conjunct position.
func (p *parser) declaration(scope bool) (*api.Decl, bool) {
	d := &api.Decl{Pos: p.peek().Pos}
	var first *node
	switch {
	case p.startsField():
		p.fieldHead(d)
		first = p.expression(scope)
	case p.startsPattern():
		p.patternHead(d)
		first = p.expression(scope)
	case p.isWord("let"), p.is("..."):
		if !scope {
			p.fail()
		}
		p.scopeDecl(d)
		return d, true
	case p.isWord("if"), p.isWord("for"):
		p.withBody(d)
		return d, false
	case p.startsDynamic():
		d.Kind = api.DcDynamic
		label := p.enclosed("(", ")", scope, p.expression)
		p.release(label)
		p.expect(":")
		d.Subs = []api.Expr{label.Expr, p.expression(false).Expr}
		return d, false
	default:
		d.Kind = api.DcEmbed
		first = p.expression(scope)
	}
	d.Subs = []api.Expr{first.Expr}
	return d, first.bound
}

// startsField reports whether a field begins here.
func (p *parser) startsField() bool {
	if !isLabel(p.peek()) {
		return false
	}
	behind := p.tokens[p.at+1]
	return isOp(behind, ":") || isOp(behind, "?") || isOp(behind, "!")
}

// fieldHead reads the label of a field, up to the colon.
func (p *parser) fieldHead(d *api.Decl) {
	d.Kind = api.DcField
	d.Label = p.label()
	d.Presence = api.Present
	switch {
	case p.skip("?"):
		d.Presence = api.Optional
	case p.skip("!"):
		d.Presence = api.Required
	}
	p.expect(":")
}

// startsPattern reports whether a pattern begins here.
func (p *parser) startsPattern() bool {
	if !p.is("[") {
		return false
	}
	end := p.closers[p.at]
	if end == 0 || !isOp(p.tokens[end], "]") || !isOp(p.tokens[end+1], ":") {
		return false
	}
	var inside []api.Token
	for _, t := range p.tokens[p.at+1 : end] {
		if t.Kind != api.TokLine {
			inside = append(inside, t)
		}
		if len(inside) > 2 {
			return false
		}
	}
	switch len(inside) {
	case 1:
		return inside[0].Kind == api.TokIdent && inside[0].Text == "string"
	case 2:
		return isOp(inside[0], "=~") && inside[1].Kind == api.TokString
	}
	return false
}

// patternHead reads the brackets of a pattern, up to the colon.
func (p *parser) patternHead(d *api.Decl) {
	d.Kind = api.DcPattern
	p.enclosed("[", "]", false, func(bool) *node {
		if p.isWord("string") {
			d.Label = ".*"
			p.at++
			return nil
		}
		p.expect("=~")
		t := p.peek()
		if _, f := regex.Parse(t.Text); f.Errno != api.OK {
			p.fail()
		}
		d.Label = t.Text
		p.at++
		return nil
	})
	p.expect(":")
}

// startsDynamic reports whether a field with a computed label begins here.
func (p *parser) startsDynamic() bool {
	if !p.is("(") {
		return false
	}
	end := p.closers[p.at]
	return end > 0 && isOp(p.tokens[end], ")") && isOp(p.tokens[end+1], ":")
}

// scopeDecl reads a declaration that stands only in files and in structs in conjunct position.
func (p *parser) scopeDecl(d *api.Decl) {
	if p.skip("...") {
		d.Kind = api.DcOpen
		return
	}
	p.expectWord("let")
	d.Kind = api.DcLet
	d.Label = p.name()
	p.expect("=")
	d.Subs = []api.Expr{p.expression(true).Expr}
}

// withBody reads a declaration with a body.
func (p *parser) withBody(d *api.Decl) {
	if p.isWord("if") {
		p.at++
		d.Kind = api.DcIf
	} else {
		d.Kind = api.DcFor
		d.Names = p.loopNames()
	}
	d.Subs = []api.Expr{p.expression(false).Expr}
	b := p.block(false)
	d.Body, d.Tail = b.decls, b.tail
}

// isSeparator reports whether a token separates declarations.
func isSeparator(t api.Token) bool {
	return t.Kind == api.TokLine || isOp(t, ",")
}
