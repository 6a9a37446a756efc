package parser

import "configlang/api"

// settle makes each struct of an expression one of the kind of its position.
func settle(e *api.Expr, conjunct bool) {
	if e.Kind == api.ExStruct && !conjunct {
		e.Kind = api.ExValue
	}
	for i := range e.Subs {
		settle(&e.Subs[i], conjunct && e.Kind == api.ExAnd)
	}
	settleDecls(e.Decls, conjunct)
}

// settleDecls does so for declarations; scope tells whether they are those of a file or of a struct in conjunct position.
func settleDecls(l []api.Decl, scope bool) {
	for i := range l {
		for j := range l[i].Subs {
			settle(&l[i].Subs[j], scope && mayConjunct(l[i].Kind))
		}
		settleDecls(l[i].Body, false)
	}
}

// mayConjunct reports whether the expression of a declaration of a kind can be in conjunct position.
func mayConjunct(kind int) bool {
	switch kind {
	case api.DcField, api.DcPattern, api.DcEmbed, api.DcLet:
		return true
	}
	return false
}
