package printer

import (
	"strings"

	"configlang/api"
	"configlang/fixed"
	"configlang/quote"
)

// lines returns the lines of declarations and of the comments behind them, with an indentation.
func lines(decls []api.Decl, tail []string, indent int) string {
	var b strings.Builder
	line := func(pieces ...string) {
		b.WriteString(strings.Repeat("\t", indent))
		b.WriteString(join(pieces...))
		b.WriteByte('\n')
	}
	comments := func(l []string) {
		for _, c := range l {
			line("//", c)
		}
	}
	for _, d := range decls {
		comments(d.Lead)
		trail := ""
		if d.Trail != "" {
			trail = " //" + d.Trail
		}
		line(decl(d, indent), trail)
	}
	comments(tail)
	return b.String()
}

// block returns declarations in braces, which stand in a declaration with an indentation.
func block(decls []api.Decl, tail []string, indent int) string {
	if len(decls)+len(tail) == 0 {
		return "{}"
	}
	return join("{\n", lines(decls, tail, indent+1), strings.Repeat("\t", indent), "}")
}

// decl returns a declaration without its comments.
func decl(d api.Decl, indent int) string {
	var subs []string
	for _, e := range d.Subs {
		subs = append(subs, expr(e, indent))
	}
	switch d.Kind {
	case api.DcField:
		return join(quote.Label(d.Label), mark(d.Presence), ": ", subs[0])
	case api.DcPattern:
		return join("[", pattern(d.Label), "]: ", subs[0])
	case api.DcLet:
		return join("let ", d.Label, " = ", subs[0])
	case api.DcIf:
		return join("if ", subs[0], " ", block(d.Body, d.Tail, indent))
	case api.DcFor:
		return join(loop(d.Names, subs[0]), " ", block(d.Body, d.Tail, indent))
	case api.DcDynamic:
		return join("(", subs[0], "): ", subs[1])
	case api.DcOpen:
		return "..."
	}
	return subs[0]
}

// mark returns what stands behind the label of a field.
func mark(presence int) string {
	switch presence {
	case api.Optional:
		return "?"
	case api.Required:
		return "!"
	}
	return ""
}

// pattern returns what stands in the brackets of a pattern.
func pattern(label string) string {
	if label == ".*" {
		return "string"
	}
	return "=~" + quote.Quote(label)
}

// loop returns the head of a loop.
func loop(names [2]string, source string) string {
	return join("for ", names[0], ", ", names[1], " in ", source)
}

// expr returns an expression that stands in a declaration with an indentation.
func expr(e api.Expr, indent int) string {
	switch e.Kind {
	case api.ExStruct, api.ExValue:
		return block(e.Decls, e.Tail, indent)
	case api.ExInterp:
		return interp(e.Subs, indent)
	}
	var subs []string
	for i, sub := range e.Subs {
		text := expr(sub, indent)
		if parenthesized(e, i) {
			text = join("(", text, ")")
		}
		subs = append(subs, text)
	}
	switch e.Kind {
	case api.ExMark:
		return "*" + subs[0]
	case api.ExUnary, api.ExBound:
		return e.Text + subs[0]
	case api.ExAnd:
		return strings.Join(subs, " & ")
	case api.ExOr:
		return strings.Join(subs, " | ")
	case api.ExBinary:
		return strings.Join(subs, join(" ", e.Text, " "))
	case api.ExSelect:
		return join(subs[0], ".", quote.Label(e.Text))
	case api.ExIndex:
		return join(subs[0], "[", subs[1], "]")
	case api.ExCall:
		return join(e.Text, "(", strings.Join(subs, ", "), ")")
	case api.ExList:
		return list(e, subs)
	case api.ExEach:
		return each(e.Names, subs)
	}
	return simple(e)
}

// simple returns an expression without parts.
func simple(e api.Expr) string {
	switch e.Kind {
	case api.ExNull:
		return "null"
	case api.ExBool:
		if e.Num == 1 {
			return "true"
		}
		return "false"
	case api.ExNumber:
		return fixed.Text(e.Num)
	case api.ExString:
		return quote.Quote(e.Text)
	case api.ExTop:
		return "_"
	case api.ExBottom:
		return "_|_"
	}
	return e.Text
}

// list returns a list with the texts of its parts.
func list(e api.Expr, subs []string) string {
	if e.Num == 1 {
		last := len(subs) - 1
		if e.Subs[last].Kind == api.ExTop {
			subs[last] = ""
		}
		subs[last] = "..." + subs[last]
	}
	return join("[", strings.Join(subs, ", "), "]")
}

// each returns a loop in a list with the texts of its parts.
func each(names [2]string, subs []string) string {
	condition := ""
	if len(subs) == 3 {
		condition = " if " + subs[1]
	}
	return join(loop(names, subs[0]), condition, ": ", subs[len(subs)-1])
}

// interp returns an interpolated string.
func interp(parts []api.Expr, indent int) string {
	var l []string
	for _, part := range parts {
		if part.Kind == api.ExString {
			text := quote.Quote(part.Text)
			l = append(l, text[1:len(text)-1])
			continue
		}
		l = append(l, `\(`, expr(part, indent), ")")
	}
	return join(`"`, join(l...), `"`)
}
