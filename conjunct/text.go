package conjunct

import (
	"slices"
	"strconv"
	"strings"

	"configlang/api"
)

// writer writes trees as texts that are equal exactly if the trees are equal in all parts, also in their positions.
type writer struct {
	strings.Builder
}

// text returns the text of an expression.
func text(e api.Expr) string {
	w := &writer{}
	w.expr(e)
	return w.String()
}

// numbers writes numbers.
func (w *writer) numbers(l ...int64) {
	for _, n := range l {
		w.WriteString(strconv.FormatInt(n, 10))
		w.WriteByte(' ')
	}
}

// strings writes strings, each with its length.
func (w *writer) strings(l ...string) {
	for _, s := range l {
		w.numbers(int64(len(s)))
		w.WriteString(s)
	}
}

// list writes strings with their number.
func (w *writer) list(l []string) {
	w.numbers(int64(len(l)))
	w.strings(l...)
}

// expr writes an expression.
func (w *writer) expr(e api.Expr) {
	w.numbers(int64(e.Kind), e.Num, int64(e.Pos))
	w.strings(e.Text, e.Names[0], e.Names[1])
	w.exprs(e.Subs)
	w.decls(e.Decls)
	w.list(e.Tail)
}

// exprs writes expressions with their number.
func (w *writer) exprs(l []api.Expr) {
	w.numbers(int64(len(l)))
	for _, e := range l {
		w.expr(e)
	}
}

// decls writes declarations with their number.
func (w *writer) decls(l []api.Decl) {
	w.numbers(int64(len(l)))
	for _, d := range l {
		w.numbers(int64(d.Kind), int64(d.Presence), int64(d.Pos))
		w.strings(d.Label, d.Names[0], d.Names[1], d.Trail)
		w.exprs(d.Subs)
		w.decls(d.Body)
		w.list(d.Tail)
		w.list(d.Lead)
	}
}

// cloneExpr returns a copy of an expression.
func cloneExpr(e api.Expr) api.Expr {
	e.Subs = slices.Clone(e.Subs)
	for i, sub := range e.Subs {
		e.Subs[i] = cloneExpr(sub)
	}
	e.Decls = cloneDecls(e.Decls)
	e.Tail = slices.Clone(e.Tail)
	return e
}

// cloneDecls returns a copy of declarations.
func cloneDecls(l []api.Decl) []api.Decl {
	l = slices.Clone(l)
	for i := range l {
		d := &l[i]
		d.Subs = slices.Clone(d.Subs)
		for j, sub := range d.Subs {
			d.Subs[j] = cloneExpr(sub)
		}
		d.Body = cloneDecls(d.Body)
		d.Tail, d.Lead = slices.Clone(d.Tail), slices.Clone(d.Lead)
	}
	return l
}
