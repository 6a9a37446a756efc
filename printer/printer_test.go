package printer_test

import (
	"reflect"
	"slices"
	"strings"
	"testing"

	"configlang/api"
	"configlang/parser"
	"configlang/printer"
	"configlang/quote"
	"configlang/syntax"
	"configlang/token"
)

// random returns numbers that are the same in each run.
type random uint64

func (x *random) below(n int) int {
	*x = *x*6364136223846793005 + 1442695040888963407
	return int(uint64(*x)>>33) % n
}

// pick returns one of some elements.
func pick[T any](x *random, l ...T) T {
	return l[x.below(len(l))]
}

// maker makes random valid trees that have a text.
type maker struct {
	*random
	left int  // how many parts may still be made
	code bool // within an interpolated string
}

func (m *maker) name() string {
	return pick(m.random, "a", "b", "#d", "_h1", "xY")
}

func (m *maker) label() string {
	if m.code {
		return m.name()
	}
	return pick(m.random, "a", "b", "#d", "_h1", "", "a b", "int", "\n\"\\\xff", "a.b", "_", "1")
}

// expr makes an expression.
func (m *maker) expr(levels int, conjunct bool) api.Expr {
	m.left--
	if levels <= 1 || m.left <= 0 {
		return m.leaf()
	}
	sub := func() api.Expr { return m.expr(levels-1, false) }
	switch m.below(14) {
	case 0:
		return api.Expr{Kind: api.ExAnd, Subs: []api.Expr{m.expr(levels-1, conjunct), m.expr(levels-1, conjunct)}}
	case 1:
		e := api.Expr{Kind: api.ExOr}
		for range 2 + m.below(2) {
			s := sub()
			if m.below(3) == 0 && levels > 2 {
				s = api.Expr{Kind: api.ExMark, Subs: []api.Expr{m.expr(levels-2, false)}}
			}
			e.Subs = append(e.Subs, s)
		}
		return e
	case 2, 3, 4:
		op := pick(m.random, "+", "-", "*", "/", "%", "==", "!=", "<", "<=", ">", ">=", "&&", "||")
		return api.Expr{Kind: api.ExBinary, Text: op, Subs: []api.Expr{sub(), sub()}}
	case 5:
		return api.Expr{Kind: api.ExUnary, Text: pick(m.random, "-", "!"), Subs: []api.Expr{sub()}}
	case 6:
		return api.Expr{Kind: api.ExBound, Text: pick(m.random, "<", "<=", ">", ">=", "!=", "=~", "=~", "!~"), Subs: []api.Expr{sub()}}
	case 7:
		return api.Expr{Kind: api.ExSelect, Text: m.label(), Subs: []api.Expr{sub()}}
	case 8:
		return api.Expr{Kind: api.ExIndex, Subs: []api.Expr{sub(), sub()}}
	case 9:
		e := api.Expr{Kind: api.ExCall, Text: m.name()}
		for range m.below(3) {
			e.Subs = append(e.Subs, sub())
		}
		return e
	case 10:
		return m.list(levels)
	case 11:
		if !m.code {
			return m.interp(levels)
		}
	case 12:
		e := api.Expr{Kind: api.ExValue}
		if conjunct {
			e.Kind = api.ExStruct
		}
		e.Decls, e.Tail = m.decls(levels-1, conjunct)
		return e
	}
	return m.leaf()
}

// leaf makes an expression without parts.
func (m *maker) leaf() api.Expr {
	switch m.below(9) {
	case 0:
		return api.Expr{Kind: api.ExNull}
	case 1:
		return api.Expr{Kind: api.ExBool, Num: int64(m.below(2))}
	case 2:
		return api.Expr{Kind: api.ExNumber, Num: pick(m.random, 0, 10000, 15000, 1, int64(api.MaxUnits))}
	case 3:
		return api.Expr{Kind: api.ExTop}
	case 4:
		return api.Expr{Kind: api.ExBottom}
	case 5:
		return api.Expr{Kind: api.ExType, Text: pick(m.random, "bool", "int", "number", "string")}
	case 6:
		if !m.code {
			return api.Expr{Kind: api.ExString, Text: pick(m.random, "", "a", "x y", "\\(\"", "\x00\xff\n")}
		}
	}
	return api.Expr{Kind: api.ExRef, Text: m.name()}
}

// list makes a list.
func (m *maker) list(levels int) api.Expr {
	e := api.Expr{Kind: api.ExList}
	for range m.below(3) {
		if m.below(3) > 0 || levels < 3 {
			e.Subs = append(e.Subs, m.expr(levels-1, false))
			continue
		}
		each := api.Expr{Kind: api.ExEach, Names: [2]string{m.name(), "v"}}
		for range 2 + m.below(2) {
			each.Subs = append(each.Subs, m.expr(levels-2, false))
		}
		e.Subs = append(e.Subs, each)
	}
	if m.below(3) == 0 {
		e.Num = 1
		e.Subs = append(e.Subs, m.expr(levels-1, false))
	}
	return e
}

// interp makes an interpolated string.
func (m *maker) interp(levels int) api.Expr {
	e := api.Expr{Kind: api.ExInterp}
	m.code = true
	for range 1 + m.below(2) {
		if m.below(2) == 0 {
			e.Subs = append(e.Subs, api.Expr{Kind: api.ExString, Text: pick(m.random, "x", ")(\\\"", "\n\xfe")})
		}
		e.Subs = append(e.Subs, m.expr(levels-1, false))
	}
	if m.below(2) == 0 {
		e.Subs = append(e.Subs, api.Expr{Kind: api.ExString, Text: "\\("})
	}
	m.code = false
	return e
}

// comments makes comments.
func (m *maker) comments() []string {
	var l []string
	for !m.code && m.below(5) == 0 {
		l = append(l, pick(m.random, "", " one", "//\t\"{\r"))
	}
	return l
}

// decls makes declarations and the comments behind them.
func (m *maker) decls(levels int, scope bool) ([]api.Decl, []string) {
	var l []api.Decl
	for range m.below(4) {
		if levels > 1 && m.left > 0 {
			d := m.decl(levels, scope)
			d.Lead = m.comments()
			if !m.code {
				d.Trail = pick(m.random, "", "", "", " t", "x//")
			}
			l = append(l, d)
		}
	}
	return l, m.comments()
}

// decl makes a declaration.
func (m *maker) decl(levels int, scope bool) api.Decl {
	m.left--
	first := func(conjunct bool) []api.Expr { return []api.Expr{m.expr(levels-1, conjunct)} }
	switch m.below(9) {
	case 0:
		if !m.code {
			return api.Decl{Kind: api.DcPattern, Label: pick(m.random, "a.*", ".*", "[\"\\n]", "()"), Subs: first(scope)}
		}
	case 1:
		return api.Decl{Kind: api.DcEmbed, Subs: first(scope)}
	case 2:
		if scope {
			return api.Decl{Kind: api.DcLet, Label: m.name(), Subs: first(true)}
		}
	case 3:
		if scope {
			return api.Decl{Kind: api.DcOpen}
		}
	case 4:
		d := api.Decl{Kind: api.DcIf, Subs: first(false)}
		d.Body, d.Tail = m.decls(levels-1, false)
		return d
	case 5:
		d := api.Decl{Kind: api.DcFor, Names: [2]string{m.name(), "v"}, Subs: first(false)}
		d.Body, d.Tail = m.decls(levels-1, false)
		return d
	case 6:
		return api.Decl{Kind: api.DcDynamic, Subs: append(first(false), first(false)...)}
	}
	return api.Decl{Kind: api.DcField, Presence: 1 + m.below(3), Label: m.label(), Subs: first(scope)}
}

// file makes a file.
func (m *maker) file() api.File {
	f := api.File{Package: pick(m.random, "", "p", "#q")}
	for range m.below(3) {
		f.Imports = append(f.Imports, api.Import{Name: m.name(), Path: pick(m.random, "a/b", "", "x y\n")})
	}
	f.Decls, f.Tail = m.decls(3+m.below(14), true)
	return f
}

// TestExamples checks the examples of the chapter.
func TestExamples(t *testing.T) {
	for in, want := range map[string]string{
		"a:1+2*3": "a: 1 + 2 * 3\n", "a:(1+2)*3": "a: (1 + 2) * 3\n", "a & (b & c)": "a & (b & c)\n", "a | (b | c)": "a | (b | c)\n", "-(a+b)": "-(a + b)\n", "(-a).b": "(-a).b\n",
		"(a*b)+c": "a * b + c\n", "*(a&b)|c": "*a & b | c\n", "x: {} // y": "x: {} // y\n",
	} {
		f, _ := parser.File(in)
		if got, e := printer.File(f); got != want || e != api.OK {
			t.Errorf("%q: %q, %d, want %q", in, got, e, want)
		}
	}
	f := api.File{Decls: []api.Decl{{Kind: api.DcField, Presence: api.Present, Label: "x", Subs: []api.Expr{{Kind: api.ExStruct}}, Trail: " y"}}}
	if got, e := printer.File(f); got != "x: {} // y\n" || e != api.OK {
		t.Errorf("File: %q, %d", got, e)
	}
}

// TestFormat checks the format of each kind of declaration and expression (P27.1): the texts are in the format.
func TestFormat(t *testing.T) {
	for _, s := range []string{
		"", "package p\n", "import a \"b/a\"\n", "import a \"\\n\"\nimport b \"c\"\n", "package p\n\nimport a \"a\"\n\n// x\na: 1\n// y\n", "package p\n\n// x\n", "import a \"a\"\n\na: 1\n", "// x\n//\n//y\n",
		"a: 1\nb?: 2\nc!: 3\n\"a b\": 4\n\"int\"?: 5\n\"\"!: 6\n#d: 7\n",
		"[string]: 1\n[=~\"a\\\\d\"]: 2\n", "a\n", "let a = 1\n", "if a {}\n", "if a {\n\tb: 1\n}\n", "for k, v in a {\n\t(k): v\n\t// x\n}\n", "(a): b\n", "...\n",
		"// 1\n// 2\na: 1 // 3\n// 4\n", "a: {\n\t// 1\n\tb: {\n\t\t// 2\n\t\tc: 1 // 3\n\t\t// 4\n\t} // 5\n} // 6\n", "a: {\n\t// 1\n}\n",
		"a: [{\n\tb: 1\n}, {}]\n", "a: {\n\tb: 1\n} & {\n\tc: [{\n\t\td: 1\n\t}]\n}\n", "if {\n\ta: 1\n} {\n\tb: 2\n}\n", "({\n\ta: 1\n}): {\n\tb: 2\n}\n",
		"a: null\n", "a: true\n", "a: false\n", "a: 0\n", "a: 12.5\n", "a: \"b\\n\\\"\\\\\\xff\"\n", "a: _\n", "a: _|_\n", "a: bool\n", "a: int\n", "a: number\n", "a: string\n", "a: b\n",
		"a: b & c & d\n", "a: b | *c | d\n", "a: b || c && d == e + f * -g.h\n", "a: -b\n", "a: !b\n", "a: <1\n", "a: >=-1\n", "a: !=\"a\"\n", "a: =~\"b\"\n", "a: !~\"b\"\n", "a: b.c.\"d e\".\"if\"\n", "a: b[1][c]\n", "a: f()\n", "a: f(1, b | c, *d | e)\n",
		"a: []\n", "a: [1, 2]\n", "a: [...]\n", "a: [1, ...]\n", "a: [1, ...int]\n", "a: [...int | string]\n", "a: [for k, v in b: c]\n", "a: [for k, v in b if c: d, 1]\n",
		"a: \"b\\(c)d\"\n", "a: \"\\(c)\\(d + 1)\"\n", "a: \"\\\"\\\\(\\(c)\\n\\xff\"\n", "a: \"\\({\n\tb: 1\n})\"\n", "a: {\n\tb: \"\\({\n\t\tc: 1\n\t})\"\n}\n",
		"a: !(=~b)\n", "a: <(=~b)\n", "a: >(=~b)\n", "a: <==~b\n", "a: >==~b\n", "a: !==~b\n", "a: =~=~b\n", "a: !~=~b\n", "a: -=~b\n", "a: *=~b | c\n", "a: !!=b\n", "a: !!b\n", "a: --b\n", "a: <<=b\n", "a: (<1).b\n", "a: (<1)[0]\n", "a: <1.b\n", "a: <1 + 2\n", "a: (a + b)[c]\n", "a: 1.a\n", "a: {}.a\n", "a: [1][0]\n", "a: (b | c) & d\n", "a: b & (c | d)\n", "a: (b & c) + d\n", "a: b - (c - d)\n", "a: b - c - d\n", "a: b == c == d == e\n", "a: b == (c == d)\n",
		"(a | b) & c\n", "[string].a\n", "\"a\" + b\n", "a != b\n", "[=~\"a\"]\n",
	} {
		f, fault := parser.File(s)
		if got, e := printer.File(f); fault != (api.Fault{}) || e != api.OK || got != s {
			t.Errorf("%q, %v: %q, %d", s, fault, got, e)
		}
	}
}

// TestExprFormat checks that an expression alone has neither indentation nor a line feed at its end (P27.1).
func TestExprFormat(t *testing.T) {
	for _, s := range []string{"1", "a & {\n\tb: 1\n\t// x\n}", "{\n\t// 1\n\ta: {\n\t\t...\n\t} // 2\n\tlet b = {}\n}", "{}", "[{\n\ta: 1\n}]", "*1 | 2"} {
		e, fault := parser.Expr(s)
		if got, errno := printer.Expr(e); fault != (api.Fault{}) || errno != api.OK || got != s {
			t.Errorf("%q, %v: %q, %d", s, fault, got, errno)
		}
	}
}

// withoutPair returns the text without one pair of parentheses.
func withoutPair(s string, from, to int) string {
	return s[:from] + s[from+1:to] + s[to+1:]
}

// pairs returns the offsets of matching parentheses that are tokens.
func pairs(s string) [][2]int {
	tokens, _ := token.Scan(s)
	var open []int
	var l [][2]int
	for _, t := range tokens {
		if t.Kind != api.TokOp {
			continue
		}
		switch t.Text {
		case "(":
			open = append(open, t.Pos)
		case ")":
			l = append(l, [2]int{open[len(open)-1], t.Pos})
			open = open[:len(open)-1]
		}
	}
	return l
}

// TestTrees checks that the text of a tree gives the same tree, that no parentheses can be left out, and the indentation (P27.1, P27.2).
func TestTrees(t *testing.T) {
	x := random(27)
	removed := 0
	for range 4000 {
		m := &maker{random: &x, left: 1 + x.below(40)}
		f := m.file()
		s, e := printer.File(f)
		if e != api.OK {
			t.Fatalf("File(%v): %d", f, e)
		}
		g, fault := parser.File(s)
		if fault != (api.Fault{}) || !syntax.Equal(f, g) {
			t.Fatalf("%q: %v\n%v\n%v", s, fault, f, g)
		}
		if again, e := printer.File(g); e != api.OK || again != s {
			t.Fatalf("%q is printed %q", s, again)
		}
		for _, p := range pairs(s) {
			removed++
			less := withoutPair(s, p[0], p[1])
			if g, fault := parser.File(less); fault == (api.Fault{}) && syntax.Equal(f, g) {
				t.Fatalf("%q is the same as %q", s, less)
			}
		}
		checkLines(t, s)
	}
	if removed < 1000 {
		t.Errorf("%d parentheses", removed)
	}
}

// checkLines checks that lines are indented by the braces around them, and have no blanks at their ends.
func checkLines(t *testing.T, s string) {
	t.Helper()
	tokens, _ := token.Scan(s)
	depth, at := 0, 0
	for i, line := range strings.SplitAfter(s, "\n") {
		want := depth
		if strings.HasPrefix(strings.TrimLeft(line, "\t"), "}") {
			want--
		}
		if n := len(line) - len(strings.TrimLeft(line, "\t")); line != "" && line != "\n" && n != want || strings.HasSuffix(line, " \n") {
			t.Fatalf("line %d of %q", i, s)
		}
		at += len(line)
		for len(tokens) > 0 && tokens[0].Pos < at {
			if k := tokens[0]; k.Kind == api.TokOp && k.Text == "{" {
				depth++
			} else if k.Kind == api.TokOp && k.Text == "}" {
				depth--
			} else if k.Kind == api.TokInterp && strings.Contains(k.Text, "\n") {
				return // its lines are part of a token
			}
			tokens = tokens[1:]
		}
	}
}

// TestOperands checks all pairs of operators (P27.1, P27.2): parentheses stand exactly where the tree would be another one without them.
func TestOperands(t *testing.T) {
	a, b := api.Expr{Kind: api.ExRef, Text: "a"}, api.Expr{Kind: api.ExRef, Text: "b"}
	var all []func(e api.Expr) []api.Expr // the expressions in which e is an operand
	add := func(kind int, text string, n int) {
		all = append(all, func(e api.Expr) []api.Expr {
			var l []api.Expr
			for i := range n {
				subs := slices.Clone([]api.Expr{a, b}[:n])
				subs[i] = e
				l = append(l, api.Expr{Kind: kind, Text: text, Subs: subs})
			}
			return l
		})
	}
	for _, op := range []string{"+", "-", "*", "/", "%", "==", "!=", "<", "<=", ">", ">=", "&&", "||"} {
		add(api.ExBinary, op, 2)
	}
	for _, op := range []string{"<", "<=", ">", ">=", "!=", "=~", "!~"} {
		add(api.ExBound, op, 1)
	}
	add(api.ExUnary, "-", 1)
	add(api.ExUnary, "!", 1)
	add(api.ExSelect, "s", 1)
	add(api.ExIndex, "", 2)
	add(api.ExAnd, "", 2)
	add(api.ExOr, "", 2)
	all = append(all, func(e api.Expr) []api.Expr {
		return []api.Expr{{Kind: api.ExOr, Subs: []api.Expr{{Kind: api.ExMark, Subs: []api.Expr{e}}, b}}}
	}, func(e api.Expr) []api.Expr {
		return []api.Expr{{Kind: api.ExCall, Text: "f", Subs: []api.Expr{e, b}}, {Kind: api.ExList, Subs: []api.Expr{e}}, {Kind: api.ExList, Num: 1, Subs: []api.Expr{e}}}
	})
	operands := []api.Expr{a, {Kind: api.ExNumber, Num: 15000}, {Kind: api.ExNumber, Num: 10000}, {Kind: api.ExTop}, {Kind: api.ExBottom}, {Kind: api.ExValue}, {Kind: api.ExList}}
	for _, inner := range all {
		operands = append(operands, inner(a)...)
	}
	for _, e := range operands {
		for _, outer := range all {
			for _, o := range outer(e) {
				checkOperand(t, o)
			}
		}
	}
}

// checkOperand checks the text of one expression, behind a list so that no braces are in conjunct position.
func checkOperand(t *testing.T, e api.Expr) {
	t.Helper()
	e = api.Expr{Kind: api.ExList, Subs: []api.Expr{e}}
	s, errno := printer.Expr(e)
	g, fault := parser.Expr(s)
	if errno != api.OK || fault != (api.Fault{}) || !syntax.EqualExpr(e, g) {
		t.Fatalf("%v: %q, %d, %v", e, s, errno, fault)
	}
	for _, p := range pairs(s) {
		less := withoutPair(s, p[0], p[1])
		if g, fault := parser.Expr(less); fault == (api.Fault{}) && syntax.EqualExpr(e, g) {
			t.Fatalf("%q is the same as %q", s, less)
		}
	}
}

// TestParsed checks that every tree that the parser returns has a text (P27.2).
func TestParsed(t *testing.T) {
	x := random(272)
	accepted := 0
	for range 20000 {
		m := &maker{random: &x, left: 1 + x.below(12)}
		s, _ := printer.File(m.file())
		tokens, _ := token.Scan(s)
		from, to := tokens[x.below(len(tokens))], tokens[x.below(len(tokens))]
		s = s[:from.Pos] + " " + s[to.Pos:to.End] + " " + s[pick(&x, from.Pos, from.End):]
		f, fault := parser.File(s)
		if fault != (api.Fault{}) {
			continue
		}
		accepted++
		text, e := printer.File(f)
		g, fault := parser.File(text)
		if e != api.OK || fault != (api.Fault{}) || !syntax.Equal(f, g) {
			t.Fatalf("%q: %q, %d, %v", s, text, e, fault)
		}
	}
	if accepted < 1000 {
		t.Errorf("%d texts without a fault", accepted)
	}
}

// TestWithoutText checks trees that no text has, and those that are not valid (P27.1).
func TestWithoutText(t *testing.T) {
	a, s := api.Expr{Kind: api.ExRef, Text: "a"}, api.Expr{Kind: api.ExString, Text: "s"}
	interp := func(l ...api.Expr) api.Expr { return api.Expr{Kind: api.ExInterp, Subs: l} }
	value := func(d api.Decl) api.Expr { return api.Expr{Kind: api.ExValue, Decls: []api.Decl{d}} }
	field := func(e api.Expr) api.Decl {
		return api.Decl{Kind: api.DcField, Presence: 1, Label: "x", Subs: []api.Expr{e}}
	}
	with := func(d api.Decl, change func(*api.Decl)) api.Decl {
		change(&d)
		return d
	}
	deep := a
	for range api.MaxDepth {
		deep = api.Expr{Kind: api.ExUnary, Text: "-", Subs: []api.Expr{deep}}
	}
	for i, c := range []struct {
		e    api.Expr
		want api.Errno
	}{
		{api.Expr{Kind: api.ExType, Text: "null"}, api.ErrKind},
		{api.Expr{Kind: api.ExType, Text: "int"}, api.OK},
		{api.Expr{Kind: api.ExRef, Text: "a", Names: [2]string{"field"}}, api.ErrKind},
		{api.Expr{Kind: api.ExRef, Text: "a", Names: [2]string{"unknown"}}, api.ErrKind},
		{api.Expr{Kind: api.ExRef, Text: "a", Names: [2]string{"let"}, Subs: []api.Expr{s}}, api.ErrKind},
		{interp(a), api.OK}, {interp(s, a, s), api.OK}, {interp(a, a), api.OK}, {interp(a, s), api.OK},
		{interp(s), api.ErrKind}, {interp(s, s, a), api.ErrKind}, {interp(a, s, s), api.ErrKind}, {interp(a, api.Expr{Kind: api.ExString}), api.ErrKind}, {interp(api.Expr{Kind: api.ExString}), api.ErrKind},
		{interp(s, a, s, a, s), api.OK},
		{interp(api.Expr{Kind: api.ExCall, Text: "f", Subs: []api.Expr{s}}), api.ErrKind},
		{interp(api.Expr{Kind: api.ExCall, Text: "f", Subs: []api.Expr{a}}), api.OK},
		{interp(interp(a)), api.ErrKind},
		{interp(api.Expr{Kind: api.ExSelect, Text: "a b", Subs: []api.Expr{a}}), api.ErrKind},
		{interp(api.Expr{Kind: api.ExSelect, Text: "b", Subs: []api.Expr{a}}), api.OK},
		{interp(value(field(a))), api.OK},
		{interp(value(with(field(a), func(d *api.Decl) { d.Trail = " x" }))), api.ErrKind},
		{interp(value(with(field(a), func(d *api.Decl) { d.Lead = []string{""} }))), api.ErrKind},
		{interp(api.Expr{Kind: api.ExValue, Tail: []string{""}}), api.ErrKind},
		{interp(value(api.Decl{Kind: api.DcIf, Subs: []api.Expr{a}, Tail: []string{"x"}})), api.ErrKind},
		{interp(value(api.Decl{Kind: api.DcPattern, Label: ".*", Subs: []api.Expr{a}})), api.OK},
		{interp(value(api.Decl{Kind: api.DcPattern, Label: "a", Subs: []api.Expr{a}})), api.ErrKind},
		{interp(value(field(api.Expr{Kind: api.ExType, Text: "null"}))), api.ErrKind},
		{api.Expr{Kind: api.ExList, Subs: []api.Expr{{Kind: api.ExUnary, Text: "-", Subs: []api.Expr{interp(s)}}}}, api.ErrKind},
		{api.Expr{Kind: api.ExList, Num: 1, Subs: []api.Expr{{Kind: api.ExType, Text: "null"}}}, api.ErrKind},
		{api.Expr{Kind: api.ExStruct, Decls: []api.Decl{{Kind: api.DcFor, Names: [2]string{"k", "v"}, Subs: []api.Expr{a}, Body: []api.Decl{field(interp(s))}}}}, api.ErrKind},
		{deep, api.ErrDepth},
		{api.Expr{}, api.ErrKind},
		{api.Expr{Kind: api.ExAnd, Subs: []api.Expr{{Kind: api.ExType, Text: "null"}, deep}}, api.ErrDepth},
		{api.Expr{Kind: api.ExMark, Subs: []api.Expr{a}}, api.ErrKind},
		{api.Expr{Kind: api.ExValue}, api.ErrKind},
	} {
		text, e := printer.Expr(c.e)
		f, fe := printer.File(api.File{Decls: []api.Decl{field(c.e)}})
		if e != c.want || (text == "") != (e != api.OK) {
			t.Errorf("Expr %d: %q, %d, want %d", i, text, e, c.want)
		}
		if fe != c.want || (f == "") != (fe != api.OK) {
			t.Errorf("File %d: %q, %d, want %d", i, f, fe, c.want)
		}
		if g, fault := parser.Expr(text); e == api.OK && (fault != (api.Fault{}) || !syntax.EqualExpr(g, c.e)) {
			t.Errorf("Expr %d: %q gives %v, %v", i, text, g, fault)
		}
	}
	for i, f := range []api.File{{Package: "if"}, {Imports: []api.Import{{Name: "1"}}}, {Tail: []string{"\n"}}, {Decls: []api.Decl{{}}}} {
		if s, e := printer.File(f); e != api.ErrKind || s != "" {
			t.Errorf("File %d: %q, %d", i, s, e)
		}
	}
}

// TestArguments checks that trees are not changed, and large ones are printed (P27.1).
func TestArguments(t *testing.T) {
	x, y := random(273), random(273)
	for range 200 {
		f := (&maker{random: &x, left: 30}).file()
		same := (&maker{random: &y, left: 30}).file()
		if _, e := printer.File(f); e != api.OK || !reflect.DeepEqual(f, same) {
			t.Fatalf("%v is changed", same)
		}
	}
	f := api.File{}
	for range 50000 {
		f.Decls = append(f.Decls, api.Decl{Kind: api.DcField, Presence: 1, Label: "a b", Subs: []api.Expr{{Kind: api.ExStruct, Tail: []string{"x"}}}, Trail: "t"})
	}
	s, e := printer.File(f)
	if want := strings.Repeat(quote.Quote("a b")+": {\n\t//x\n} //t\n", 50000); e != api.OK || s != want {
		t.Errorf("File: %d bytes, %d", len(s), e)
	}
}
