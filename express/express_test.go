package express_test

import (
	"reflect"
	"slices"
	"testing"

	"configlang/api"
	"configlang/express"
	"configlang/parts"
	"configlang/refine"
	"configlang/trial"
	"configlang/value"
)

// Values of the tests below.
var (
	one     = trial.Number(1)
	two     = trial.Number(2)
	ints    = trial.Kind("int")
	top     = value.Top().V
	bottom  = api.Value{}
	list    = trial.List
	record  = trial.Record
	closed  = trial.Closed
	longer  = trial.Longer
	shut    = trial.Shut
	present = trial.Present
	plain   = value.Plain
	marked  = trial.Marked
)

// same reports whether a result is the wanted one.
func same(v api.Val, e api.Errno, w api.Val, f api.Errno) bool {
	return e == f && parts.SameVal(v, w)
}

// vals returns the Vals of bindings.
func vals(env []api.Binding) []api.Val {
	return parts.Each(env, func(b api.Binding) api.Val { return b.Val })
}

// copied returns a copy of a list of expressions that has no memory with it in common.
func copied(l []api.Expr) []api.Expr {
	return parts.Each(l, func(e api.Expr) api.Expr {
		e.Subs, e.Decls = copied(e.Subs), copiedDecls(e.Decls)
		return e
	})
}

// copiedDecls returns a copy of a list of declarations.
func copiedDecls(l []api.Decl) []api.Decl {
	return parts.Each(l, func(d api.Decl) api.Decl {
		d.Subs, d.Body = copied(d.Subs), copiedDecls(d.Body)
		return d
	})
}

// sort returns of which sort a result is.
func sort(v api.Val, e api.Errno) string {
	switch {
	case e == api.ErrDepth:
		return "deep"
	case e == api.ErrName:
		return "name"
	case e != api.OK:
		return "error"
	case value.IsTop(v):
		return "top"
	case value.IsBottom(v.V):
		return "bottom"
	case len(v.V.Structs) > 0:
		return "struct"
	case len(v.V.Lists) > 0:
		return "list"
	}
	return "scalar"
}

// TestEval compares Eval with its definition for random expressions (P32.1), and checks that results are valid, share no memory, and that arguments stay as they are.
func TestEval(t *testing.T) {
	g := newGrower(321)
	count := map[string]int{}
	for range 4000 {
		e := g.alone(2 + g.x.Below(6))
		tree, before := copied([]api.Expr{e})[0], parts.Each(vals(g.env), parts.CopyVal)
		got, errno := express.Eval(e, g.env)
		want, f := wanted(e, g.env)
		if !same(got, errno, want, f) || !refine.Valid(got) {
			t.Fatalf("Eval(%+v): %s, %d, want %s, %d", e, trial.Show(got), errno, trial.Show(want), f)
		}
		if !reflect.DeepEqual(copied([]api.Expr{e})[0], tree) || !slices.EqualFunc(vals(g.env), before, parts.SameVal) {
			t.Fatalf("Eval(%+v) changes its arguments", tree)
		}
		if trial.Shares(got) || shared(got, g.env) {
			t.Fatalf("Eval(%+v) shares memory", e)
		}
		if again, h := express.Eval(e, g.env); !same(again, h, got, errno) || trial.Shares(got, again) {
			t.Fatalf("Eval(%+v): %s again", e, trial.Show(again))
		}
		count[sort(got, errno)]++
	}
	for s, n := range map[string]int{"deep": 60, "name": 70, "top": 300, "bottom": 800, "struct": 600, "list": 220, "scalar": 500} {
		if count[s] < n {
			t.Errorf("%s: %d times", s, count[s])
		}
	}
}

// shared reports whether a result has memory in common with bindings.
func shared(v api.Val, env []api.Binding) bool {
	m := trial.Memory{}
	for _, w := range vals(env) {
		m.Val(w)
	}
	mine := trial.Memory{}
	mine.Val(v)
	for k := range mine {
		if m[k] > 0 {
			return true
		}
	}
	return false
}

// sameDecl reports whether two declarations are equal in all parts.
func sameDecl(a, b api.Decl) bool {
	return reflect.DeepEqual(copiedDecls([]api.Decl{a}), copiedDecls([]api.Decl{b}))
}
