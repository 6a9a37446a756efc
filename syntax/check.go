package syntax

import (
	"slices"
	"strings"

	"configlang/api"
	"configlang/quote"
	"configlang/regex"
)

// spot is where a part stands.
type spot struct {
	level    int
	scope    bool // a declaration directly in a file or in an ExStruct
	conjunct bool // an expression in conjunct position
	option   bool // an expression directly in an ExOr
	item     bool // an expression directly in an ExList, other than the rest
}

// Check returns OK for a valid file.
func Check(f api.File) api.Errno {
	if f.Package != "" && !quote.Ident(f.Package) || !singleLines(f.Tail) {
		return api.ErrKind
	}
	if slices.ContainsFunc(f.Imports, func(i api.Import) bool { return !quote.Ident(i.Name) }) {
		return api.ErrKind
	}
	return check(f.Decls)
}

// CheckExpr returns OK for a valid expression that stands alone.
func CheckExpr(e api.Expr) api.Errno {
	return check(nil, e)
}

// check checks the declarations of a file, and expressions that stand alone.
func check(decls []api.Decl, exprs ...api.Expr) api.Errno {
	wrong, deep := false, false
	var expr func(e api.Expr, at spot)
	var decl func(d api.Decl, at spot)
	expr = func(e api.Expr, at spot) {
		deep = deep || at.level > api.MaxDepth
		wrong = wrong || !exprFits(e) || !exprPermitted(e.Kind, at)
		if wrong {
			return
		}
		for i, sub := range e.Subs {
			expr(sub, spotInExpr(e, i, at))
		}
		for _, d := range e.Decls {
			decl(d, spot{level: at.level + 1, scope: e.Kind == api.ExStruct})
		}
	}
	decl = func(d api.Decl, at spot) {
		deep = deep || at.level > api.MaxDepth
		wrong = wrong || !declFits(d) || !declPermitted(d.Kind, at)
		if wrong {
			return
		}
		for _, sub := range d.Subs {
			expr(sub, spotInDecl(d.Kind, at))
		}
		for _, b := range d.Body {
			decl(b, spot{level: at.level + 1})
		}
	}
	for _, d := range decls {
		decl(d, spot{level: 1, scope: true})
	}
	for _, e := range exprs {
		expr(e, spot{level: 1, conjunct: true})
	}
	switch {
	case wrong:
		return api.ErrKind
	case deep:
		return api.ErrDepth
	}
	return api.OK
}

// spotInExpr returns where Subs[i] of e stands.
func spotInExpr(e api.Expr, i int, at spot) spot {
	sub := spot{level: at.level + 1}
	switch e.Kind {
	case api.ExAnd:
		sub.conjunct = at.conjunct
	case api.ExRef: // only one that is resolved to a let has a Sub
		sub.conjunct = true
	case api.ExOr:
		sub.option = true
	case api.ExList:
		sub.item = e.Num == 0 || i < len(e.Subs)-1
	}
	return sub
}

// spotInDecl returns where the Subs of a declaration of a kind stand.
func spotInDecl(kind int, at spot) spot {
	sub := spot{level: at.level + 1}
	switch kind {
	case api.DcField, api.DcPattern, api.DcEmbed, api.DcLet:
		sub.conjunct = at.scope
	}
	return sub
}

// exprPermitted reports whether an expression of a kind may stand there.
func exprPermitted(kind int, at spot) bool {
	switch kind {
	case api.ExMark:
		return at.option
	case api.ExEach:
		return at.item
	case api.ExStruct:
		return at.conjunct
	case api.ExValue:
		return !at.conjunct
	}
	return true
}

// declPermitted reports whether a declaration of a kind may stand there.
func declPermitted(kind int, at spot) bool {
	switch kind {
	case api.DcLet, api.DcOpen:
		return at.scope
	}
	return true
}

// exprFits reports whether the fields of an expression are as its kind requires, apart from its parts.
func exprFits(e api.Expr) bool {
	return onlyUsedExpr(e) && subsFit(e) && textFits(e) && numFits(e) &&
		(e.Kind != api.ExRef || refFits(e)) &&
		(e.Kind != api.ExEach || loopFits(e.Names)) &&
		singleLines(e.Tail)
}

// onlyUsedExpr reports whether the kind is known, and only fields that it uses are set.
func onlyUsedExpr(e api.Expr) bool {
	u := api.Expr{}
	switch e.Kind {
	case api.ExNull, api.ExTop, api.ExBottom:
	case api.ExBool, api.ExNumber:
		u.Num = e.Num
	case api.ExString, api.ExType:
		u.Text = e.Text
	case api.ExInterp, api.ExIndex, api.ExAnd, api.ExOr, api.ExMark:
		u.Subs = e.Subs
	case api.ExBound, api.ExSelect, api.ExUnary, api.ExBinary, api.ExCall:
		u.Text, u.Subs = e.Text, e.Subs
	case api.ExList:
		u.Num, u.Subs = e.Num, e.Subs
	case api.ExEach:
		u.Names, u.Subs = e.Names, e.Subs
	case api.ExRef:
		u.Text, u.Num, u.Names, u.Subs = e.Text, e.Num, e.Names, e.Subs
	case api.ExStruct, api.ExValue:
		u.Decls, u.Tail = e.Decls, e.Tail
	default:
		return false
	}
	return u.Text == e.Text && u.Num == e.Num && u.Names == e.Names &&
		len(u.Subs) == len(e.Subs) && len(u.Decls) == len(e.Decls) && len(u.Tail) == len(e.Tail)
}

// subsFit reports whether the number of Subs is one that the kind permits; kinds without Subs, and references, are checked elsewhere.
func subsFit(e api.Expr) bool {
	n := len(e.Subs)
	switch e.Kind {
	case api.ExBound, api.ExSelect, api.ExMark, api.ExUnary:
		return n == 1
	case api.ExIndex, api.ExAnd, api.ExBinary:
		return n == 2
	case api.ExEach:
		return n == 2 || n == 3
	case api.ExInterp:
		return n >= 1
	case api.ExOr:
		return n >= 2
	case api.ExList:
		return n >= 1 || e.Num == 0
	}
	return true
}

// textFits reports whether Text is an operator, a type or a name, where the kind requires one.
func textFits(e api.Expr) bool {
	switch e.Kind {
	case api.ExRef, api.ExCall:
		return quote.Ident(e.Text)
	case api.ExType:
		return oneOf(e.Text, "null", "bool", "int", "number", "string")
	case api.ExBound:
		return oneOf(e.Text, "<", "<=", ">", ">=", "!=", "=~", "!~")
	case api.ExUnary:
		return oneOf(e.Text, "-", "!")
	case api.ExBinary:
		return oneOf(e.Text, "+", "-", "*", "/", "%", "==", "!=", "<", "<=", ">", ">=", "&&", "||")
	}
	return true
}

// numFits reports whether Num is in the range of the kind.
func numFits(e api.Expr) bool {
	switch e.Kind {
	case api.ExBool, api.ExList:
		return e.Num == 0 || e.Num == 1
	case api.ExNumber:
		return 0 <= e.Num && e.Num <= api.MaxUnits
	}
	return true
}

// refFits reports whether a reference is either not resolved or resolved.
func refFits(e api.Expr) bool {
	if e.Names == [2]string{} {
		return e.Num == 0 && len(e.Subs) == 0
	}
	if e.Names[1] != "" || e.Num < 0 {
		return false
	}
	switch e.Names[0] {
	case "let":
		return len(e.Subs) == 1
	case "field", "loop", "package", "unknown":
		return len(e.Subs) == 0
	}
	return false
}

// declFits reports whether the fields of a declaration are as its kind requires, apart from its parts.
func declFits(d api.Decl) bool {
	if !onlyUsedDecl(d) || !singleLines(d.Lead, d.Tail, []string{d.Trail}) {
		return false
	}
	switch d.Kind {
	case api.DcField:
		return len(d.Subs) == 1 && api.Present <= d.Presence && d.Presence <= api.Optional
	case api.DcPattern:
		_, f := regex.Parse(d.Label)
		return len(d.Subs) == 1 && f.Errno == api.OK
	case api.DcLet:
		return len(d.Subs) == 1 && quote.Ident(d.Label)
	case api.DcFor:
		return len(d.Subs) == 1 && loopFits(d.Names)
	case api.DcDynamic:
		return len(d.Subs) == 2
	case api.DcOpen:
		return len(d.Subs) == 0
	}
	return len(d.Subs) == 1
}

// onlyUsedDecl reports whether the kind is known, and only fields that it uses are set.
func onlyUsedDecl(d api.Decl) bool {
	u := api.Decl{}
	switch d.Kind {
	case api.DcEmbed, api.DcDynamic, api.DcOpen:
	case api.DcField:
		u.Presence, u.Label = d.Presence, d.Label
	case api.DcPattern, api.DcLet:
		u.Label = d.Label
	case api.DcIf:
		u.Body, u.Tail = d.Body, d.Tail
	case api.DcFor:
		u.Names, u.Body, u.Tail = d.Names, d.Body, d.Tail
	default:
		return false
	}
	return u.Presence == d.Presence && u.Label == d.Label && u.Names == d.Names &&
		len(u.Body) == len(d.Body) && len(u.Tail) == len(d.Tail)
}

// loopFits reports whether the names of a loop are two identifiers.
func loopFits(names [2]string) bool {
	return quote.Ident(names[0]) && quote.Ident(names[1]) && names[0] != names[1]
}

// singleLines reports whether no comment contains a line feed.
func singleLines(lists ...[]string) bool {
	return !slices.ContainsFunc(slices.Concat(lists...), func(s string) bool { return strings.Contains(s, "\n") })
}

// oneOf reports whether s is one of some words.
func oneOf(s string, words ...string) bool {
	return slices.Contains(words, s)
}
