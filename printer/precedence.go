package printer

import "configlang/api"

// How tightly an expression binds.
const (
	alternatives = 0
	conjunction  = 1
	logic        = 2 // binary operators take the levels from here on
	unary        = 7
	postfix      = 8
)

// level returns how tightly the text of an expression binds.
func level(e api.Expr) int {
	switch e.Kind {
	case api.ExOr:
		return alternatives
	case api.ExAnd:
		return conjunction
	case api.ExBinary:
		return operatorLevel(e.Text)
	case api.ExUnary, api.ExBound:
		return unary
	}
	return postfix
}

// operatorLevel returns how tightly a binary operator binds.
func operatorLevel(op string) int {
	l := logic
	// Each group binds more tightly than the ones below it.
	switch op {
	case "*", "/", "%":
		l++
		fallthrough
	case "+", "-":
		l++
		fallthrough
	case "==", "!=", "<", "<=", ">", ">=":
		l++
		fallthrough
	case "&&":
		l++
	}
	return l
}

// parenthesized reports whether Subs[i] of e stands in parentheses.
func parenthesized(e api.Expr, i int) bool {
	return level(e.Subs[i]) < required(e, i) || glued(e)
}

// required returns how tightly Subs[i] of e must bind to stand without parentheses.
func required(e api.Expr, i int) int {
	switch e.Kind {
	case api.ExOr, api.ExMark:
		return conjunction
	case api.ExAnd:
		return conjunction + i
	case api.ExBinary:
		return operatorLevel(e.Text) + i
	case api.ExUnary, api.ExBound:
		return unary
	case api.ExSelect:
		return postfix
	case api.ExIndex:
		if i == 0 {
			return postfix
		}
	}
	return alternatives
}

// glued reports whether the operator of e would be read as one token with the beginning of its operand.
func glued(e api.Expr) bool {
	if e.Kind != api.ExUnary && e.Kind != api.ExBound || e.Subs[0].Kind != api.ExBound || e.Subs[0].Text != "=~" {
		return false
	}
	switch e.Text {
	case "!", "<", ">":
		return true
	}
	return false
}
