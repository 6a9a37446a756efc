package express

import (
	"slices"

	"configlang/api"
)

// loopDepth is the depth of the names that loops bind.
const loopDepth = -1

// find returns the Val to which a reference, other than one to a let, is bound; false if there is none.
func find(ref api.Expr, env []api.Binding) (api.Val, bool) {
	for i := len(env) - 1; i >= 0; i-- {
		if env[i].Name == ref.Text && meant(ref, env[i].Depth) {
			return env[i].Val, true
		}
	}
	return api.Val{}, false
}

// meant reports whether a reference may be bound at a depth.
func meant(ref api.Expr, depth int) bool {
	switch ref.Names[0] {
	case "":
		return depth == 0 || depth == loopDepth
	case "loop":
		return depth == loopDepth
	}
	return int64(depth) == ref.Num
}

// inside returns the bindings within a loop: env, followed by those of its two names, which are to be set.
func inside(names [2]string, env []api.Binding) []api.Binding {
	n := len(env)
	return append(env[:n:n], api.Binding{Name: names[0], Depth: loopDepth}, api.Binding{Name: names[1], Depth: loopDepth})
}

// complete reports whether each reference in a valid expression, other than one to a let, is bound.
func complete(e api.Expr, env []api.Binding) bool {
	var expr func(e api.Expr, env []api.Binding) bool
	var decl func(d api.Decl, env []api.Binding) bool
	exprs := func(l []api.Expr, env []api.Binding) bool {
		return !slices.ContainsFunc(l, func(e api.Expr) bool { return !expr(e, env) })
	}
	decls := func(l []api.Decl, env []api.Binding) bool {
		return !slices.ContainsFunc(l, func(d api.Decl) bool { return !decl(d, env) })
	}
	expr = func(e api.Expr, env []api.Binding) bool {
		switch {
		case e.Kind == api.ExRef && e.Names[0] != "let":
			_, found := find(e, env)
			return found
		case e.Kind == api.ExEach:
			return expr(e.Subs[0], env) && exprs(e.Subs[1:], inside(e.Names, env))
		}
		return exprs(e.Subs, env) && decls(e.Decls, env)
	}
	decl = func(d api.Decl, env []api.Binding) bool {
		body := env
		if d.Kind == api.DcFor {
			body = inside(d.Names, env)
		}
		return exprs(d.Subs, env) && decls(d.Body, body)
	}
	return expr(e, env)
}
