package parser_test

import (
	"reflect"
	"slices"
	"strconv"
	"strings"
	"testing"

	"configlang/api"
	"configlang/fixed"
	"configlang/parser"
	"configlang/quote"
)

// writer writes random texts of the grammar, rule by rule, together with their trees.
type writer struct {
	*random
	text   string
	last   string // the last token
	lines  bool   // whether line ends are not ignored
	code   bool   // within an interpolated string, where no quotes may stand
	levels int    // how deep further parts may be nested
	tight  bool   // no blanks are wanted in front of the next token
}

// blank writes blanks in front of a token; between tokens that would be read as one there is at least one.
func (w *writer) blank(next string) {
	if w.tight {
		w.tight = false
		return
	}
	s := pick(w.random, "", "", " ", "\t", "  ", "\r")
	if !w.lines && w.below(6) == 0 {
		s = "\n "
	}
	if s == "" && w.last != "" {
		l, ok := scan(w.last + next)
		if !ok || len(l) != 3 || l[0].End != len(w.last) || w.last == "_" && next == "|" {
			s = " "
		}
	}
	w.text += s
}

// token writes a token, and returns its offset.
func (w *writer) token(s string) int {
	w.blank(s)
	w.last = s
	w.text += s
	return len(w.text) - len(s)
}

// room reports whether parts may be nested some levels more.
func (w *writer) room(levels int) bool {
	return w.levels >= levels && len(w.text) < 500
}

// feed writes a line feed.
func (w *writer) feed() {
	w.text += pick(w.random, "\n", " \n", "\n\n", "\t\n \n")
	w.last = ""
}

// deeper returns what a rule writes one level deeper.
func (w *writer) deeper(rule func() api.Expr) api.Expr {
	w.levels--
	defer func() { w.levels++ }()
	return rule()
}

// expression writes an expression.
func (w *writer) expression(conjunct bool) api.Expr {
	n := 1
	if w.room(1) && w.below(4) == 0 {
		n = 2 + w.below(2)
	}
	if n == 1 {
		return w.conjunction(conjunct)
	}
	return w.deeper(func() api.Expr {
		e := api.Expr{Kind: api.ExOr}
		for i := range n {
			if i > 0 {
				w.token("|")
			}
			e.Subs = append(e.Subs, w.alternative())
		}
		e.Pos = e.Subs[0].Pos
		return e
	})
}

// alternative writes an alternative.
func (w *writer) alternative() api.Expr {
	if !w.room(1) || w.below(3) > 0 {
		return w.conjunction(false)
	}
	at := w.token("*")
	sub := w.deeper(func() api.Expr { return w.conjunction(false) })
	return api.Expr{Kind: api.ExMark, Subs: []api.Expr{sub}, Pos: at}
}

// conjunction writes a conjunction.
func (w *writer) conjunction(conjunct bool) api.Expr {
	n := 1
	if w.room(2) && w.below(4) == 0 {
		n = 2 + w.below(2)
	}
	w.levels -= n - 1
	defer func() { w.levels += n - 1 }()
	e := w.binary(1, conjunct)
	for range n - 1 {
		w.token("&")
		e = api.Expr{Kind: api.ExAnd, Subs: []api.Expr{e, w.binary(1, conjunct)}, Pos: e.Pos}
	}
	return e
}

// binary writes operands of binary operators of a level.
func (w *writer) binary(level int, conjunct bool) api.Expr {
	if level > 5 {
		return w.unary(conjunct)
	}
	ops := [][]string{{"||"}, {"&&"}, {"==", "!=", "<", "<=", ">", ">="}, {"+", "-"}, {"*", "/", "%"}}[level-1]
	n := 0
	if w.room(2) && w.below(9) == 0 {
		n = 1 + w.below(2)
	}
	w.levels -= n
	defer func() { w.levels += n }()
	e := w.binary(level+1, conjunct && n == 0)
	for range n {
		op := pick(w.random, ops...)
		w.token(op)
		e = api.Expr{Kind: api.ExBinary, Text: op, Subs: []api.Expr{e, w.binary(level+1, false)}, Pos: e.Pos}
	}
	return e
}

// unary writes an operand with prefixes.
func (w *writer) unary(conjunct bool) api.Expr {
	if !w.room(1) || w.below(6) > 0 {
		return w.postfix(conjunct)
	}
	kind, op := api.ExUnary, pick(w.random, "-", "!")
	if w.below(2) == 0 {
		kind, op = api.ExBound, pick(w.random, "<", "<=", ">", ">=", "!=", "=~", "!~")
	}
	at := w.token(op)
	sub := w.deeper(func() api.Expr { return w.unary(false) })
	return api.Expr{Kind: kind, Text: op, Subs: []api.Expr{sub}, Pos: at}
}

// postfix writes a primary with selections.
func (w *writer) postfix(conjunct bool) api.Expr {
	n := 0
	if w.room(2) && w.below(5) == 0 {
		n = 1 + w.below(2)
	}
	w.levels -= n
	defer func() { w.levels += n }()
	e := w.primary(conjunct && n == 0)
	for range n {
		if w.below(2) == 0 {
			w.token(".")
			label, text := w.label()
			w.token(text)
			e = api.Expr{Kind: api.ExSelect, Text: label, Subs: []api.Expr{e}, Pos: e.Pos}
			continue
		}
		index := w.enclosed("[", "]", func() api.Expr { return w.expression(false) })
		e = api.Expr{Kind: api.ExIndex, Subs: []api.Expr{e, index}, Pos: e.Pos}
	}
	return e
}

// enclosed writes a part between two operators, where line ends are ignored.
func (w *writer) enclosed(from, to string, inner func() api.Expr) api.Expr {
	outside := w.lines
	w.token(from)
	w.lines = false
	e := inner()
	w.token(to)
	w.lines = outside
	return e
}

// name returns a name.
func (w *writer) name() string {
	return pick(w.random, "a", "b", "c1", "#d", "_h", "x_Y", "integer")
}

// label returns a label and its text.
func (w *writer) label() (string, string) {
	s := w.name()
	if w.code || w.below(3) > 0 {
		return s, s
	}
	s = pick(w.random, s, "", "a b", "int", "\n\"\\\xff", "//")
	return s, quote.Quote(s)
}

// primary writes a primary.
func (w *writer) primary(conjunct bool) api.Expr {
	if w.room(1) {
		switch w.below(9) {
		case 0:
			return w.enclosed("(", ")", func() api.Expr { return w.expression(conjunct) })
		case 1, 2:
			return w.braces(conjunct)
		case 3:
			return w.list()
		case 4:
			return w.call()
		case 5:
			if !w.code {
				return w.interpolation()
			}
		}
	}
	return w.constant()
}

// constant writes a primary of one token.
func (w *writer) constant() api.Expr {
	var e api.Expr
	text := ""
	switch w.below(8) {
	case 0:
		e.Kind, text = api.ExNull, "null"
	case 1:
		e.Kind, e.Num = api.ExBool, int64(w.below(2))
		text = []string{"false", "true"}[e.Num]
	case 2:
		e.Kind, e.Num = api.ExNumber, int64(w.below(4)*w.below(5000000))
		text = fixed.Text(e.Num)
	case 3:
		e.Kind, text = api.ExTop, "_"
	case 4:
		e.Kind, text = api.ExBottom, "_|_"
	case 5:
		e.Kind, e.Text = api.ExType, pick(w.random, "bool", "int", "number", "string")
		text = e.Text
	case 6:
		if !w.code {
			e.Kind, e.Text = api.ExString, pick(w.random, "", "a", "x y", "\\(\"", "\x00\xff\n")
			text = quote.Quote(e.Text)
			break
		}
		fallthrough
	default:
		e.Kind, e.Text = api.ExRef, w.name()
		text = e.Text
	}
	e.Pos = w.token(text)
	return e
}

// braces writes a struct.
func (w *writer) braces(conjunct bool) api.Expr {
	e := api.Expr{Kind: api.ExValue}
	if conjunct {
		e.Kind = api.ExStruct
	}
	e.Pos = w.token("{")
	e.Decls, e.Tail = w.inBraces(conjunct)
	return e
}

// inBraces writes declarations up to a closing brace.
func (w *writer) inBraces(scope bool) ([]api.Decl, []string) {
	outside := w.lines
	w.lines = true
	w.levels--
	decls, tail := w.declarations(scope, nil)
	w.levels++
	w.token("}")
	w.lines = outside
	return decls, tail
}

// call writes a call.
func (w *writer) call() api.Expr {
	e := api.Expr{Kind: api.ExCall, Text: w.name()}
	e.Pos = w.token(e.Text)
	w.enclosed("(", ")", func() api.Expr {
		w.levels--
		for i := range w.below(3) {
			if i > 0 {
				w.token(",")
			}
			e.Subs = append(e.Subs, w.expression(false))
		}
		w.levels++
		return api.Expr{}
	})
	return e
}

// list writes a list.
func (w *writer) list() api.Expr {
	e := api.Expr{Kind: api.ExList}
	w.enclosed("[", "]", func() api.Expr {
		e.Pos = len(w.text) - 1
		w.levels--
		for i := range w.below(3) {
			if i > 0 {
				w.token(",")
			}
			e.Subs = append(e.Subs, w.item())
		}
		if w.below(3) == 0 {
			if len(e.Subs) > 0 {
				w.token(",")
			}
			e.Num = 1
			rest := api.Expr{Kind: api.ExTop, Pos: w.token("...")}
			if w.below(2) == 0 {
				rest = w.expression(false)
			}
			e.Subs = append(e.Subs, rest)
		}
		w.levels++
		return api.Expr{}
	})
	return e
}

// item writes an item of a list.
func (w *writer) item() api.Expr {
	if !w.room(1) || w.below(4) > 0 {
		return w.expression(false)
	}
	return w.deeper(func() api.Expr {
		e := api.Expr{Kind: api.ExEach}
		e.Pos, e.Names = w.loop()
		e.Subs = append(e.Subs, w.expression(false))
		if w.below(2) == 0 {
			w.token("if")
			e.Subs = append(e.Subs, w.expression(false))
		}
		w.token(":")
		e.Subs = append(e.Subs, w.expression(false))
		return e
	})
}

// loop writes the head of a loop up to "in".
func (w *writer) loop() (int, [2]string) {
	at := w.token("for")
	names := [2]string{w.name(), "v" + strconv.Itoa(w.below(9))}
	w.token(names[0])
	w.token(",")
	w.token(names[1])
	w.token("in")
	return at, names
}

// interpolation writes an interpolated string.
func (w *writer) interpolation() api.Expr {
	e := api.Expr{Kind: api.ExInterp}
	w.blank(`"a"`)
	e.Pos = len(w.text)
	w.text += `"`
	outside := w.lines
	w.lines, w.code = false, true
	w.levels--
	n := 1 + w.below(2)
	for i := range n + 1 {
		if s := pick(w.random, "", "x", "\t(\"\\", ")) "); s != "" {
			e.Subs = append(e.Subs, api.Expr{Kind: api.ExString, Text: s, Pos: len(w.text)})
			text := quote.Quote(s)
			w.text += text[1 : len(text)-1]
		}
		if i < n {
			w.text += `\(`
			w.last = ""
			e.Subs = append(e.Subs, w.expression(false))
			w.text += pick(w.random, "", " ", "\n") + ")"
		}
	}
	w.levels++
	w.lines, w.code = outside, false
	w.text += `"`
	w.last = `"a"`
	return e
}

// declarations writes declarations and the comments behind them; comments of lead stand in front already.
func (w *writer) declarations(scope bool, lead []string) ([]api.Decl, []string) {
	var l []api.Decl
	n := w.below(4)
	if !w.room(1) {
		n = 0
	}
	lead = append(lead, w.gap(false)...)
	for i := range n {
		d := w.declaration(scope)
		d.Lead = lead
		separated := false
		for w.below(4) == 0 {
			w.token(",")
			separated = true
		}
		if !w.code && w.below(4) == 0 {
			s := pick(w.random, " x", "", "//\ty\r", "\"")
			w.text += pick(w.random, "", " ") + "//" + s + "\n"
			d.Trail, w.last, separated = s, "", true
		}
		l = append(l, d)
		lead = w.gap(!separated && i < n-1)
	}
	return l, lead
}

// gap writes separators and comments on lines of their own.
func (w *writer) gap(must bool) []string {
	var l []string
	if must {
		if w.below(2) == 0 {
			w.token(",")
		} else {
			w.feed()
		}
	}
	for w.below(3) == 0 {
		switch w.below(3) {
		case 0:
			w.token(",")
		case 1:
			w.feed()
		case 2:
			if !w.code {
				l = append(l, w.comment())
			}
		}
	}
	return l
}

// comment writes a comment on a line of its own.
func (w *writer) comment() string {
	s := pick(w.random, " one", "", " \"{[(", "a: 1")
	if w.text != "" {
		w.text += "\n"
	}
	w.text += pick(w.random, "", "\t") + "//" + s + "\n"
	w.last = ""
	return s
}

// declaration writes a declaration.
func (w *writer) declaration(scope bool) api.Decl {
	w.levels--
	defer func() { w.levels++ }()
	at := 0
	mark := func(n int) { // n is the offset of the first token
		at = n
	}
	d := api.Decl{}
	switch k := w.below(9); {
	case k == 0 && scope:
		d.Kind, d.Label = api.DcLet, w.name()
		mark(w.token("let"))
		w.token(d.Label)
		w.token("=")
		d.Subs = []api.Expr{w.expression(true)}
	case k == 1 && scope:
		d.Kind = api.DcOpen
		mark(w.token("..."))
	case k == 2 && !w.code:
		d.Kind, d.Label = api.DcPattern, pick(w.random, "a.*", "[0-9]+", "()", ".*")
		mark(w.token("["))
		w.lines = false
		w.token("=~")
		w.token(quote.Quote(d.Label))
		w.token("]")
		w.lines = true
		w.token(":")
		d.Subs = []api.Expr{w.expression(scope)}
	case k == 3:
		d.Kind, d.Label = api.DcPattern, ".*"
		mark(w.token("["))
		w.lines = false
		w.token("string")
		w.token("]")
		w.lines = true
		w.token(":")
		d.Subs = []api.Expr{w.expression(scope)}
	case k == 4 && w.room(1):
		d.Kind = api.DcIf
		mark(w.token("if"))
		d.Subs = []api.Expr{w.expression(false)}
		w.token("{")
		d.Body, d.Tail = w.inBraces(false)
	case k == 5 && w.room(1):
		d.Kind = api.DcFor
		n, names := w.loop()
		mark(n)
		d.Names = names
		d.Subs = []api.Expr{w.expression(false)}
		w.token("{")
		d.Body, d.Tail = w.inBraces(false)
	case k == 6:
		d.Kind = api.DcDynamic
		w.blank("(")
		mark(len(w.text))
		w.tight = true
		label := w.enclosed("(", ")", func() api.Expr { return w.expression(false) })
		w.token(":")
		d.Subs = []api.Expr{label, w.expression(false)}
	case k == 7:
		d.Kind = api.DcEmbed
		w.blank("a")
		mark(len(w.text))
		w.tight = true
		d.Subs = []api.Expr{w.expression(scope)}
	default:
		d.Kind, d.Presence = api.DcField, 1+w.below(3)
		label, text := w.label()
		d.Label = label
		mark(w.token(text))
		if d.Presence > 1 {
			w.token([]string{"!", "?"}[d.Presence-2])
		}
		w.token(":")
		d.Subs = []api.Expr{w.expression(scope)}
	}
	d.Pos = at
	return d
}

// file writes a file.
func (w *writer) file() api.File {
	var f api.File
	var lead []string
	w.lines = true
	comments := func() {
		for w.below(4) == 0 {
			lead = append(lead, w.comment())
		}
	}
	separator := func() {
		if w.below(2) == 0 {
			w.token(",")
			return
		}
		w.text += "\n"
		w.last = ""
	}
	comments()
	if w.below(2) == 0 {
		f.Package = w.name()
		w.token("package")
		w.token(f.Package)
		separator()
		comments()
	}
	for range w.below(3) {
		i := api.Import{Pos: w.token("import")}
		i.Path = pick(w.random, "a", "a.b/c", "x/#y", "/z")
		i.Name = i.Path[strings.LastIndex(i.Path, "/")+1:]
		if w.below(2) == 0 {
			i.Path = pick(w.random, i.Path, "", "a b", "x/", "a/1")
			i.Name = w.name()
			w.token(i.Name)
		}
		w.token(quote.Quote(i.Path))
		separator()
		f.Imports = append(f.Imports, i)
	}
	f.Decls, f.Tail = w.declarations(true, lead)
	return f
}

// plainFile makes all empty lists of a file nil.
func plainFile(f api.File) api.File {
	if len(f.Imports) == 0 {
		f.Imports = nil
	}
	f.Decls, f.Tail = plainDecls(f.Decls), strs(f.Tail)
	return f
}

func strs(l []string) []string {
	if len(l) == 0 {
		return nil
	}
	return l
}

func plainDecls(l []api.Decl) []api.Decl {
	if len(l) == 0 {
		return nil
	}
	l = slices.Clone(l)
	for i := range l {
		l[i].Subs, l[i].Body = plainExprs(l[i].Subs), plainDecls(l[i].Body)
		l[i].Lead, l[i].Tail = strs(l[i].Lead), strs(l[i].Tail)
	}
	return l
}

func plainExprs(l []api.Expr) []api.Expr {
	if len(l) == 0 {
		return nil
	}
	l = slices.Clone(l)
	for i := range l {
		l[i].Subs, l[i].Decls, l[i].Tail = plainExprs(l[i].Subs), plainDecls(l[i].Decls), strs(l[i].Tail)
	}
	return l
}

// TestTrees checks the trees of random texts that are written rule by rule (P26.1, P26.2).
func TestTrees(t *testing.T) {
	x := random(261)
	kinds := map[int]int{}
	for range 3000 {
		w := &writer{random: &x, levels: 15}
		want := plainFile(w.file())
		got, f := parser.File(w.text)
		if f != (api.Fault{}) {
			t.Fatalf("File(%q): %v", w.text, f)
		}
		if got = plainFile(got); !reflect.DeepEqual(got, want) {
			t.Fatalf("File(%q):\n%v\n%v", w.text, got, want)
		}
		count(kinds, got.Decls)
	}
	for k := api.ExNull; k <= api.ExValue; k++ {
		if kinds[k] < 20 {
			t.Errorf("%d expressions of the kind %d", kinds[k], k)
		}
	}
	for k := api.DcField; k <= api.DcOpen; k++ {
		if kinds[-k] < 20 {
			t.Errorf("%d declarations of the kind %d", kinds[-k], k)
		}
	}
}

// count counts the kinds of expressions, and those of declarations with a minus sign.
func count(n map[int]int, l []api.Decl) {
	var expr func(e api.Expr)
	expr = func(e api.Expr) {
		n[e.Kind]++
		for _, sub := range e.Subs {
			expr(sub)
		}
		count(n, e.Decls)
	}
	for _, d := range l {
		n[-d.Kind]++
		for _, sub := range d.Subs {
			expr(sub)
		}
		count(n, d.Body)
	}
}
