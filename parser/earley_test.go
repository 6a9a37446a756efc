package parser_test

import (
	"slices"
	"strings"

	"configlang/api"
	"configlang/quote"
	"configlang/regex"
	"configlang/token"
)

// grammar is that of the chapter, with the parts that are in conjunct position (C) and those that are not (V) apart: S are declarations of a file or a struct, B others.
const grammar = `
File = Pre DeclsS END
Pre = | Owns package NAME Sep | Owns package NAME Sep Owns Imps | Owns Imps
Owns = | Owns OWN
Imps = Imp | Imps Imp
Imp = import PATH Sep | import NAME STR Sep
Sep = , | LINE
Gap = | Gap Sep | Gap OWN
After = | After Sep | After OWN | After TRAIL
DeclsS = Gap | Gap ListS After
DeclsB = Gap | Gap ListB After
ListS = DeclS | ListS After Sep After DeclS
ListB = DeclB | ListB After Sep After DeclB
DeclS = Label Mark : ExprC | [ string ] : ExprC | [ =~ STR ] : ExprC | let NAME = ExprC | ... | ExprC | Other
DeclB = Label Mark : ExprV | [ string ] : ExprV | [ =~ STR ] : ExprV | ExprV | Other
Other = if ExprV { DeclsB } | for NAME , SECOND in ExprV { DeclsB } | ( ExprV ) : ExprV
Label = NAME | STR
Mark = | ? | !
ExprC = AndC | Alts
ExprV = AndV | Alts
Alts = Alt "|" AltList
AltList = Alt | AltList "|" Alt
Alt = AndV | * AndV
AndC = LogicC | AndC & LogicC
AndV = LogicV | AndV & LogicV
LogicC = UnaryC | Bin
LogicV = UnaryV | Bin
Bin = UnaryV Op UnaryV | Bin Op UnaryV
Op = "||" | && | == | != | < | <= | > | >= | + | - | * | / | %
UnaryC = PostC | Prefix UnaryV
UnaryV = PostV | Prefix UnaryV
Prefix = - | ! | < | <= | > | >= | != | =~ | !~
PostC = PrimC | PostV . Label | PostV [ ExprV ]
PostV = PrimV | PostV . Label | PostV [ ExprV ]
PrimC = Prim | ( ExprC ) | { DeclsS }
PrimV = Prim | ( ExprV ) | { DeclsB }
Prim = null | true | false | NUM | STR | INTERP | _ | _|_ | bool | int | number | string | NAME | NAME ( Args ) | List
Args = | ArgList
ArgList = ExprV | ArgList , ExprV
List = [ ] | [ Items ] | [ Rest ] | [ Items , Rest ]
Rest = ... | ... ExprV
Items = Item | Items , Item
Item = ExprV | for NAME , SECOND in ExprV : ExprV | for NAME , SECOND in ExprV if ExprV : ExprV
Code = ExprV END
Alone = ExprC END | ExprC LINE END
`

// production is a rule of the grammar.
type production struct {
	left    string
	right   []string
	pattern bool
}

// rules returns the productions, and those of each nonterminal.
func rules() ([]production, map[string][]int) {
	var all []production
	index := map[string][]int{}
	for _, line := range strings.Split(strings.TrimSpace(grammar), "\n") {
		left, right, _ := strings.Cut(line, " =")
		for _, alternative := range strings.Split(right+" ", " | ") {
			p := production{left: left}
			for _, s := range strings.Fields(alternative) {
				p.right = append(p.right, strings.Trim(s, `"`))
			}
			p.pattern = len(p.right) > 1 && p.right[1] == "=~"
			index[left] = append(index[left], len(all))
			all = append(all, p)
		}
	}
	return all, index
}

// item is a production of which a part has been read, from a token on.
type item struct {
	rule, dot, from int
}

// recognizer reads tokens after Earley: its last set is empty exactly if they are not the beginning of a text.
type recognizer struct {
	rules    []production
	index    map[string][]int
	nullable map[string]bool
	sets     [][]item
	badRegex int // the token of a pattern that is no regular expression, or -1
	classes  [][]string
}

// newRecognizer returns a recognizer of the texts of a nonterminal.
func newRecognizer(start string) *recognizer {
	r := &recognizer{nullable: map[string]bool{}, badRegex: -1}
	r.rules, r.index = rules()
	for again := true; again; {
		again = false
		for _, p := range r.rules {
			if !r.nullable[p.left] && !slices.ContainsFunc(p.right, func(s string) bool { return !r.nullable[s] }) {
				r.nullable[p.left] = true
				again = true
			}
		}
	}
	var first []item
	for _, n := range r.index[start] {
		first = append(first, item{rule: n})
	}
	r.sets = [][]item{r.close(first, 0)}
	return r
}

// close completes and predicts.
func (r *recognizer) close(set []item, at int) []item {
	seen := map[item]bool{}
	for _, i := range set {
		seen[i] = true
	}
	add := func(i item) {
		if !seen[i] {
			seen[i] = true
			set = append(set, i)
		}
	}
	for n := 0; n < len(set); n++ {
		i := set[n]
		p := r.rules[i.rule]
		if i.dot == len(p.right) {
			if i.from == at {
				continue // a nullable one, over which has been stepped already
			}
			for _, j := range r.sets[i.from] {
				if q := r.rules[j.rule]; j.dot < len(q.right) && q.right[j.dot] == p.left {
					add(item{j.rule, j.dot + 1, j.from})
				}
			}
			continue
		}
		s := p.right[i.dot]
		for _, m := range r.index[s] {
			add(item{rule: m, from: at})
		}
		if r.nullable[s] {
			add(item{i.rule, i.dot + 1, i.from})
		}
	}
	return set
}

// read reads a token with its classes; it reports whether the tokens are the beginning of a text.
func (r *recognizer) read(classes []string) bool {
	at := len(r.sets)
	var next []item
	for _, i := range r.sets[at-1] {
		p := r.rules[i.rule]
		if i.dot < len(p.right) && slices.Contains(classes, p.right[i.dot]) {
			next = append(next, item{i.rule, i.dot + 1, i.from})
			if p.pattern && p.right[i.dot] == ":" && !slices.Contains(r.classes[at-3], "RE") && r.badRegex < 0 {
				r.badRegex = at - 3
			}
		}
	}
	r.classes = append(r.classes, classes)
	r.sets = append(r.sets, r.close(next, at))
	return len(next) > 0
}

// expected returns the terminals that may come next.
func (r *recognizer) expected() []string {
	var l []string
	for _, i := range r.sets[len(r.sets)-1] {
		if p := r.rules[i.rule]; i.dot < len(p.right) && r.index[p.right[i.dot]] == nil {
			l = append(l, p.right[i.dot])
		}
	}
	slices.Sort(l)
	return slices.Compact(l)
}

// significant returns the tokens without the line ends that are ignored; in code they are ignored outside of braces.
func significant(tokens []api.Token, code bool) []api.Token {
	var l []api.Token
	var open []string
	if code {
		open = append(open, "(")
	}
	for _, t := range tokens {
		inside := ""
		if len(open) > 0 {
			inside = open[len(open)-1]
		}
		switch {
		case t.Kind == api.TokLine && (inside == "(" || inside == "["):
			continue
		case t.Kind != api.TokOp:
		case t.Text == "(" || t.Text == "[" || t.Text == "{":
			open = append(open, t.Text)
		case (t.Text == ")" || t.Text == "]" || t.Text == "}") && len(open) > 0:
			open = open[:len(open)-1]
		}
		l = append(l, t)
	}
	return l
}

// classesOf returns the terminals that a token is.
func classesOf(s string, l []api.Token, i int) []string {
	t := l[i]
	switch t.Kind {
	case api.TokEnd:
		return []string{"END"}
	case api.TokLine:
		return []string{"LINE"}
	case api.TokNumber:
		return []string{"NUM"}
	case api.TokOp:
		return []string{t.Text}
	case api.TokString:
		c := []string{"STR"}
		if _, f := regex.Parse(t.Text); f.Errno == api.OK {
			c = append(c, "RE")
		}
		if quote.Ident(t.Text[strings.LastIndex(t.Text, "/")+1:]) {
			c = append(c, "PATH")
		}
		return c
	case api.TokInterp:
		if isInterp(t.Text) {
			return []string{"INTERP"}
		}
		return nil
	case api.TokComment:
		return commentClass(s, l, i)
	}
	if !quote.Ident(t.Text) {
		return []string{t.Text} // a word of the grammar, or nothing at all
	}
	if i >= 3 && l[i-1].Text == "," && l[i-2].Text == t.Text && l[i-3].Text == "for" && l[i-3].Kind == api.TokIdent {
		return []string{"NAME"}
	}
	return []string{"NAME", "SECOND"}
}

// commentClass returns whether a comment stands on a line of its own, or on that of the last token that is no comma.
func commentClass(s string, l []api.Token, i int) []string {
	line := strings.LastIndex(s[:l[i].Pos], "\n") + 1
	own := true
	for _, t := range l[:i] {
		own = own && (t.Kind == api.TokLine || t.End <= line)
	}
	if own {
		return []string{"OWN"}
	}
	for j := i - 1; j >= 0; j-- {
		if l[j].Text == "," || l[j].Kind == api.TokLine {
			continue
		}
		if !strings.Contains(s[l[j].End:l[i].Pos], "\n") {
			return []string{"TRAIL"}
		}
		return nil
	}
	return nil
}

// isInterp reports whether the codes of an interpolated string are expressions.
func isInterp(s string) bool {
	parts, _ := token.Interp(s)
	for _, part := range parts {
		if !part.Code {
			continue
		}
		tokens, f := token.Scan(part.Text)
		if f.Errno != api.OK {
			return false
		}
		r := newRecognizer("Code")
		l := significant(tokens, true)
		for i, t := range l {
			if t.Kind == api.TokComment || !r.read(classesOf(part.Text, l, i)) || r.badRegex >= 0 {
				return false
			}
		}
	}
	return true
}

// faultOf returns the fault of a text, apart from its depth: the definition.
func faultOf(s, start string) api.Fault {
	tokens, f := token.Scan(s)
	if f.Errno != api.OK {
		return f
	}
	r := newRecognizer(start)
	l := significant(tokens, false)
	for i, t := range l {
		ok := r.read(classesOf(s, l, i))
		if r.badRegex >= 0 {
			return api.Fault{Errno: api.ErrSyntax, At: l[r.badRegex].Pos}
		}
		if !ok {
			return api.Fault{Errno: api.ErrSyntax, At: t.Pos}
		}
	}
	return api.Fault{}
}
