package express_test

import (
	"slices"
	"testing"

	"configlang/api"
	"configlang/express"
	"configlang/parts"
	"configlang/trial"
	"configlang/value"
)

// shuffle puts the declarations of all structs of a tree, and the operands of its conjunctions, in a random order.
func shuffle(x *trial.Random, l []api.Expr) {
	for i := range l {
		e := &l[i]
		shuffle(x, e.Subs)
		shuffleDecls(x, e.Decls)
		if e.Kind == api.ExAnd && x.Below(2) == 0 {
			e.Subs[0], e.Subs[1] = e.Subs[1], e.Subs[0]
		}
	}
}

// shuffleDecls does so for declarations.
func shuffleDecls(x *trial.Random, l []api.Decl) {
	for i := range l {
		shuffle(x, l[i].Subs)
		shuffleDecls(x, l[i].Body)
		j := x.Below(i + 1)
		l[i], l[j] = l[j], l[i]
	}
}

// TestOrder checks that the order of declarations and operands does not matter (P32.4).
func TestOrder(t *testing.T) {
	g := newGrower(325)
	moved, definite := 0, 0
	for range 1500 {
		e := api.Expr{Kind: api.ExStruct}
		g.env = g.bindings()
		for range 2 + g.x.Below(3) {
			e.Decls = append(e.Decls, g.decl(2+g.x.Below(4), true, nil))
		}
		got, errno := express.Eval(e, g.env)
		other := copied([]api.Expr{e})
		shuffle(&g.x, other)
		if again, f := express.Eval(other[0], g.env); !same(again, f, got, errno) {
			t.Fatalf("Eval(%+v): %s, %d, then %s, %d", e, trial.Show(got), errno, trial.Show(again), f)
		}
		if moved++; errno == api.OK && !value.IsBottom(got.V) && !parts.SameVal(got, structs) {
			definite++
		}
	}
	if definite < moved/6 {
		t.Errorf("%d of %d values are definite", definite, moved)
	}
}

// rename returns a tree in which no name of a reference is one of the random trees' names.
func rename(l []api.Expr) []api.Expr {
	var decls func(l []api.Decl) []api.Decl
	names := func(n [2]string) [2]string {
		for i := range n {
			n[i] = "n" + n[i]
		}
		return n
	}
	decls = func(l []api.Decl) []api.Decl {
		return parts.Each(l, func(d api.Decl) api.Decl {
			if d.Kind == api.DcFor {
				d.Names = names(d.Names)
			}
			d.Subs, d.Body = rename(d.Subs), decls(d.Body)
			return d
		})
	}
	return parts.Each(l, func(e api.Expr) api.Expr {
		switch e.Kind {
		case api.ExRef:
			e.Text = "n" + e.Text
		case api.ExEach:
			e.Names = names(e.Names)
		}
		e.Subs, e.Decls = rename(e.Subs), decls(e.Decls)
		return e
	})
}

// TestOthers checks that bindings of names that do not occur change nothing, nor does another name (P32.4).
func TestOthers(t *testing.T) {
	g := newGrower(326)
	for range 2000 {
		e := g.alone(2 + g.x.Below(4))
		got, errno := express.Eval(e, g.env)
		var env []api.Binding
		for _, b := range g.env {
			for g.x.Below(2) == 0 {
				env = append(env, api.Binding{Name: trial.Pick(&g.x, "a", "b", "c", "d", "k", "v", "l"), Depth: g.x.Below(4) - 1, Val: trial.Pick(&g.x, g.vals...)})
			}
			b.Name = "n" + b.Name
			env = append(env, b)
		}
		if again, f := express.Eval(rename([]api.Expr{e})[0], env); !same(again, f, got, errno) {
			t.Fatalf("Eval(%+v): %s, %d, then %s, %d", e, trial.Show(got), errno, trial.Show(again), f)
		}
	}
}

// TestDecls compares Decls with Eval of a struct (P32.1).
func TestDecls(t *testing.T) {
	g := newGrower(327)
	for range 1500 {
		g.env = g.bindings()
		l := g.decls(2+g.x.Below(4), g.x.Below(8) > 0, nil)
		if g.x.Below(10) == 0 {
			l = append(l, api.Decl{Kind: g.x.Below(10), Label: "a", Presence: g.x.Below(5)})
		}
		before := copiedDecls(l)
		got, e := express.Decls(l, g.env)
		want, f := wanted(api.Expr{Kind: api.ExStruct, Decls: l}, g.env)
		if !same(got, e, want, f) || trial.Shares(got) || shared(got, g.env) || !slices.EqualFunc(l, before, sameDecl) {
			t.Fatalf("Decls(%+v): %s, %d, want %s, %d", l, trial.Show(got), e, trial.Show(want), f)
		}
	}
	if got, e := express.Decls(nil, nil); !same(got, e, structs, api.OK) {
		t.Errorf("no declarations: %s, %d", trial.Show(got), e)
	}
	if got, e := express.Decls([]api.Decl{{Kind: api.DcOpen}, {Kind: api.DcField, Label: "a", Presence: api.Present, Subs: []api.Expr{{Kind: api.ExStruct}}}}, nil); !same(got, e, with(field("a", structs)), api.OK) {
		t.Errorf("a field with a struct: %s, %d", trial.Show(got), e)
	}
}

// TestStrange checks trees that are changed in one field, most of which are not valid (P32.1).
func TestStrange(t *testing.T) {
	g := newGrower(328)
	count := map[api.Errno]int{}
	for range 4000 {
		e := copied([]api.Expr{g.alone(2 + g.x.Below(4))})[0]
		spoil(&g.x, &e)
		got, errno := express.Eval(e, g.env)
		if want, f := wanted(e, g.env); !same(got, errno, want, f) {
			t.Fatalf("Eval(%+v): %s, %d, want %s, %d", e, trial.Show(got), errno, trial.Show(want), f)
		}
		count[errno]++
	}
	if count[api.ErrKind] < 800 || count[api.OK] < 400 || count[api.ErrName] < 40 {
		t.Errorf("%v", count)
	}
}

// spoil changes one field of a part of a tree.
func spoil(x *trial.Random, e *api.Expr) {
	if len(e.Subs) > 0 && x.Below(3) > 0 {
		spoil(x, &e.Subs[x.Below(len(e.Subs))])
		return
	}
	if len(e.Decls) > 0 && x.Below(4) > 0 {
		d := &e.Decls[x.Below(len(e.Decls))]
		if len(d.Subs) > 0 && x.Below(2) == 0 {
			spoil(x, &d.Subs[x.Below(len(d.Subs))])
			return
		}
		*trial.Pick(x, &d.Kind, &d.Presence) = x.Below(10)
		return
	}
	switch x.Below(5) {
	case 0:
		e.Kind = x.Below(24)
	case 1:
		e.Text = trial.Pick(x, "", "a", "z", "+", "!")
	case 2:
		e.Num = int64(x.Below(4) - 1)
	case 3:
		e.Names[x.Below(2)] = trial.Pick(x, "", "let", "loop", "field", "a")
	default:
		e.Subs = append(e.Subs, api.Expr{Kind: api.ExNull})
	}
}
