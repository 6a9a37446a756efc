package express_test

import (
	"slices"

	"configlang/api"
	"configlang/automaton"
	"configlang/builtin"
	"configlang/concrete"
	"configlang/disjoin"
	"configlang/lang"
	"configlang/lookup"
	"configlang/operator"
	"configlang/refine"
	"configlang/regex"
	"configlang/scalar"
	"configlang/syntax"
	"configlang/trial"
	"configlang/unify"
	"configlang/value"
)

// model computes values by the definition of the chapter. It notes whether a part is nested too deeply, and goes on.
type model struct {
	deep bool
}

// scope is what names are bound to: by loops, from the outside to the inside, and by the caller.
type scope struct {
	loops, env []api.Binding
}

// within returns the scope within a loop.
func (s scope) within(names [2]string, first, second api.Val) scope {
	return scope{slices.Concat(s.loops, []api.Binding{{Name: names[0], Val: first}, {Name: names[1], Val: second}}), s.env}
}

// binding returns the Val to which a name is bound.
func (s scope) binding(e api.Expr) (api.Val, bool) {
	free, loop := e.Names[0] == "", e.Names[0] == "loop"
	var l []api.Val
	for _, b := range s.env {
		if b.Name == e.Text && (free && b.Depth == 0 || (free || loop) && b.Depth == -1 || !free && !loop && int64(b.Depth) == e.Num) {
			l = append(l, b.Val)
		}
	}
	for _, b := range s.loops {
		if b.Name == e.Text && (free || loop) {
			l = append(l, b.Val)
		}
	}
	if len(l) == 0 {
		return api.Val{}, false
	}
	return l[len(l)-1], true
}

// unbound reports whether an expression contains a name without a binding.
func unbound(e api.Expr, s scope) bool {
	if e.Kind == api.ExRef && e.Names[0] != "let" {
		_, ok := s.binding(e)
		return !ok
	}
	for i, sub := range e.Subs {
		inner := s
		if e.Kind == api.ExEach && i > 0 {
			inner = s.within(e.Names, api.Val{}, api.Val{})
		}
		if unbound(sub, inner) {
			return true
		}
	}
	return unboundDecls(e.Decls, s)
}

// unboundDecls does so for declarations.
func unboundDecls(l []api.Decl, s scope) bool {
	for _, d := range l {
		for _, sub := range d.Subs {
			if unbound(sub, s) {
				return true
			}
		}
		inner := s
		if d.Kind == api.DcFor {
			inner = s.within(d.Names, api.Val{}, api.Val{})
		}
		if unboundDecls(d.Body, inner) {
			return true
		}
	}
	return false
}

// wanted is Eval by its definition.
func wanted(e api.Expr, env []api.Binding) (api.Val, api.Errno) {
	checked := e
	if e.Kind == api.ExValue {
		checked = api.Expr{Kind: api.ExList, Subs: []api.Expr{e}}
	}
	if errno := syntax.CheckExpr(checked); errno != api.OK {
		return api.Val{}, errno
	}
	for _, b := range env {
		if !refine.Valid(b.Val) {
			return api.Val{}, api.ErrKind
		}
	}
	if unbound(e, scope{env: env}) {
		return api.Val{}, api.ErrName
	}
	var m model
	v := m.expr(e, scope{env: env})
	if m.deep {
		return api.Val{}, api.ErrDepth
	}
	return v, api.OK
}

// levels returns the number of levels of a value.
func levels(v api.Value) int {
	n := 0
	inner := func(w api.Val) { n = max(n, levels(w.V), levels(w.D)) }
	for _, c := range v.Lists {
		for _, w := range slices.Concat(c.Items, c.Rest) {
			inner(w)
		}
	}
	for _, c := range v.Structs {
		for _, f := range c.Fields {
			inner(f.Val)
		}
		for _, k := range c.Classes {
			inner(k.Val)
		}
	}
	return n + 1
}

// made makes a value valid, unless it is nested too deeply.
func (m *model) made(v api.Value) api.Val {
	if levels(v) > api.MaxDepth {
		m.deep = true
		return value.Bottom()
	}
	return trial.Made(value.Plain(v))
}

// bound returns the greatest lower bound of some Vals.
func bound(l []api.Val) api.Val {
	v := value.Top()
	for _, w := range slices.Backward(l) {
		v, _ = unify.Unify(w, v)
	}
	return v
}

// single is Single.
func (m *model) single(label string, presence int, v api.Val) api.Val {
	if presence == api.Optional {
		return m.made(record(api.StructCase{Classes: []api.Class{{Set: automaton.Word(label), Val: v}, trial.Others(value.Top(), label)}}))
	}
	return m.made(record(trial.Open(api.Field{Label: label, Presence: presence, Val: v})))
}

// pattern is Pattern.
func (m *model) pattern(label string, v api.Val) api.Val {
	r, _ := regex.Parse(label)
	set, e := automaton.Of(r)
	if e != api.OK {
		return value.Bottom()
	}
	classes := []api.Class{{Set: set, Val: v}, {Set: lang.Not(set), Val: value.Top()}}
	return m.made(record(api.StructCase{Classes: slices.DeleteFunc(classes, func(k api.Class) bool { return len(k.Set.States) == 0 })}))
}

// state is what is known of an operand.
type state int

const (
	known state = iota
	unknown
	none
)

// operand returns the data of an operand.
func operand(v api.Val) (api.Data, state) {
	l := concrete.Problems(v, true)
	switch {
	case len(l) == 0:
		d, _ := concrete.Data(v, true)
		return d, known
	case l[0].Errno == api.ErrBottom:
		return api.Data{}, none
	}
	return api.Data{}, unknown
}

// operands does so for several ones; the state is the worst of all.
func operands(l []api.Val) ([]api.Data, state) {
	var data []api.Data
	worst := known
	for _, v := range l {
		d, s := operand(v)
		data, worst = append(data, d), max(worst, s)
	}
	return data, worst
}

// truth is the state of a condition.
type truth int

const (
	yes truth = iota
	no
	maybe
	neither
)

// condition returns whether a condition is true.
func condition(v api.Val) truth {
	d, s := operand(v)
	switch {
	case s == unknown:
		return maybe
	case s == none || d.Kind != api.Bool:
		return neither
	case d.Num == 1:
		return yes
	}
	return no
}

// elements returns the names and the Vals of the elements of a source; nil if it has none, and whether it is open.
func elements(v api.Val) (l [][2]api.Val, some, open bool) {
	r := disjoin.Resolve(v)
	lists, structs, scalars := len(r.Lists), len(r.Structs), 0
	if !scalar.Empty(r.Scalars) {
		scalars = 1
	}
	switch {
	case structs == 1 && lists+scalars == 0:
		for _, f := range r.Structs[0].Fields {
			l = append(l, [2]api.Val{value.Plain(trial.Text(f.Label)), f.Val})
		}
		return l, true, false
	case lists == 1 && structs+scalars == 0 && len(r.Lists[0].Rest) == 0:
		for i, w := range r.Lists[0].Items {
			l = append(l, [2]api.Val{value.Plain(trial.Number(int64(i))), w})
		}
		return l, true, false
	}
	return nil, false, r.Any || lists+structs+scalars > 1 && lists+structs > 0 || lists == 1
}

// soft returns Top for what is not known yet, and Bottom for other errors.
func soft(v api.Val, e api.Errno) api.Val {
	switch e {
	case api.OK:
		return v
	case api.ErrOpen, api.ErrAbsent:
		return value.Top()
	}
	return value.Bottom()
}

// expr returns the value of an expression.
func (m *model) expr(e api.Expr, s scope) api.Val {
	var subs []api.Val
	if e.Kind != api.ExList { // an ExEach has no value of its own
		for _, sub := range e.Subs {
			subs = append(subs, m.expr(sub, s))
		}
	}
	switch e.Kind {
	case api.ExNull, api.ExBool, api.ExNumber, api.ExString:
		kinds := map[int]int{api.ExNull: api.Null, api.ExBool: api.Bool, api.ExNumber: api.Number, api.ExString: api.String}
		v, _ := concrete.Of(api.Data{Kind: kinds[e.Kind], Num: e.Num, Str: e.Text})
		return v
	case api.ExTop:
		return value.Top()
	case api.ExType:
		return value.Plain(trial.Kind(e.Text))
	case api.ExInterp:
		return m.interp(subs)
	case api.ExBound:
		return m.limit(e.Text, subs[0])
	case api.ExRef:
		if e.Names[0] == "let" {
			return subs[0]
		}
		v, _ := s.binding(e)
		return v
	case api.ExSelect:
		return soft(lookup.Select(subs[0], e.Text))
	case api.ExIndex:
		d, known := operand(subs[1])
		switch {
		case known == unknown:
			return value.Top()
		case d.Kind == api.Number && d.Num == d.Num/api.Unit*api.Unit:
			return soft(lookup.Index(subs[0], int(d.Num/api.Unit)))
		case d.Kind == api.String:
			return soft(lookup.Select(subs[0], d.Str))
		}
	case api.ExStruct, api.ExValue:
		return m.fields(e.Decls, s)
	case api.ExList:
		return m.list(e, s)
	case api.ExAnd:
		return bound(subs)
	case api.ExOr:
		return m.or(e, subs)
	case api.ExMark:
		return subs[0]
	case api.ExUnary, api.ExBinary:
		return m.operation(e.Text, subs)
	case api.ExCall:
		return soft(builtin.Call(e.Text, subs))
	}
	return value.Bottom()
}

// or returns the value of a disjunction.
func (m *model) or(e api.Expr, subs []api.Val) api.Val {
	var marks []bool
	for _, sub := range e.Subs {
		marks = append(marks, sub.Kind == api.ExMark)
	}
	v, _ := disjoin.Or(subs, marks)
	return v
}

// interp returns the value of an interpolated string.
func (m *model) interp(subs []api.Val) api.Val {
	text, open := "", false
	for _, v := range subs {
		d, s := operand(v)
		if s == none {
			return value.Bottom()
		}
		if s == unknown {
			open = true
			continue
		}
		part, e := operator.Plain(d)
		if e != api.OK {
			return value.Bottom()
		}
		text += part
	}
	if open {
		return value.Plain(trial.Kind("string"))
	}
	return value.Plain(trial.Text(text))
}

// limit returns the value of an ExBound.
func (m *model) limit(op string, v api.Val) api.Val {
	d, s := operand(v)
	switch {
	case s == none:
		return value.Bottom()
	case s == unknown:
		return value.Top()
	case op != "=~" && op != "!~":
		some, e := scalar.Bound(op, d)
		if e != api.OK {
			return value.Bottom()
		}
		return trial.Made(value.Scalar(some))
	case d.Kind != api.String:
		return value.Bottom()
	}
	r, f := regex.Parse(d.Str)
	set, e := automaton.Of(r)
	if f.Errno != api.OK || e != api.OK {
		return value.Bottom()
	}
	strings := trial.Kind("string")
	if op == "=~" {
		strings.Scalars.Strs = set
	} else {
		strings.Scalars.Strs = lang.Minus(strings.Scalars.Strs, set)
	}
	return value.Plain(strings)
}

// operation returns the value of an operator and its operands.
func (m *model) operation(op string, subs []api.Val) api.Val {
	l, s := operands(subs)
	var d api.Data
	var e api.Errno
	switch {
	case s == none:
		return value.Bottom()
	case s == unknown && op == "+":
		return value.Top()
	case s == unknown && slices.Contains([]string{"-", "*", "/", "%"}, op):
		return value.Plain(trial.Kind("number"))
	case s == unknown:
		return value.Plain(trial.Kind("bool"))
	case len(l) == 1:
		d, e = operator.Unary(op, l[0])
	default:
		d, e = operator.Binary(op, l[0], l[1])
	}
	if e != api.OK {
		return value.Bottom()
	}
	v, e := concrete.Of(d)
	m.deep = m.deep || e == api.ErrDepth
	return v
}

// fields returns the value of a struct.
func (m *model) fields(l []api.Decl, s scope) api.Val {
	vals := []api.Val{value.Plain(record(trial.Open()))}
	for _, d := range l {
		vals = append(vals, m.decl(d, s))
	}
	return bound(vals)
}

// decl returns the value of a declaration.
func (m *model) decl(d api.Decl, s scope) api.Val {
	var subs []api.Val
	for _, sub := range d.Subs {
		subs = append(subs, m.expr(sub, s))
	}
	switch d.Kind {
	case api.DcField:
		return m.single(d.Label, d.Presence, subs[0])
	case api.DcPattern:
		return m.pattern(d.Label, subs[0])
	case api.DcEmbed:
		return subs[0]
	case api.DcIf:
		switch condition(subs[0]) {
		case yes:
			return m.fields(d.Body, s)
		case neither:
			return value.Bottom()
		}
	case api.DcFor:
		l, some, open := elements(subs[0])
		if !some && !open {
			return value.Bottom()
		}
		var vals []api.Val
		for _, x := range l {
			vals = append(vals, m.fields(d.Body, s.within(d.Names, x[0], x[1])))
		}
		return bound(vals)
	case api.DcDynamic:
		label, known := operand(subs[0])
		switch {
		case known == none || known != unknown && label.Kind != api.String:
			return value.Bottom()
		case known != unknown:
			return m.single(label.Str, api.Present, subs[1])
		}
	}
	return value.Top()
}

// list returns the value of a list.
func (m *model) list(e api.Expr, s scope) api.Val {
	var c api.ListCase
	wrong, vague := false, false
	for _, sub := range e.Subs {
		if sub.Kind != api.ExEach {
			c.Items = append(c.Items, m.expr(sub, s))
			continue
		}
		l, some, open := elements(m.expr(sub.Subs[0], s))
		wrong, vague = wrong || !some && !open, vague || open
		for _, x := range l {
			inner := s.within(sub.Names, x[0], x[1])
			is := yes
			if len(sub.Subs) == 3 {
				is = condition(m.expr(sub.Subs[1], inner))
			}
			wrong, vague = wrong || is == neither, vague || is == maybe
			if is == yes {
				c.Items = append(c.Items, m.expr(sub.Subs[len(sub.Subs)-1], inner))
			}
		}
	}
	if e.Num == 1 {
		n := len(c.Items) - 1
		c = api.ListCase{Items: c.Items[:n], Rest: c.Items[n:]}
	}
	switch {
	case wrong:
		return value.Bottom()
	case vague:
		return value.Plain(trial.List(trial.Longer(top)))
	}
	return m.made(trial.List(c))
}
