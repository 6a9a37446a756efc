package parser_test

import (
	"reflect"
	"slices"
	"strings"
	"testing"

	"configlang/api"
	"configlang/parser"
	"configlang/syntax"
	"configlang/token"
)

// scan returns the tokens of a text.
func scan(s string) ([]api.Token, bool) {
	l, f := token.Scan(s)
	return l, f.Errno == api.OK
}

// syntaxAt returns the fault of a token that is not permitted.
func syntaxAt(n int) api.Fault {
	return api.Fault{Errno: api.ErrSyntax, At: n}
}

// ref, num and field return trees at an offset.
func ref(s string, at int) api.Expr { return api.Expr{Kind: api.ExRef, Text: s, Pos: at} }

func num(n int64, at int) api.Expr {
	return api.Expr{Kind: api.ExNumber, Num: n * api.Unit, Pos: at}
}

func field(label string, e api.Expr, at int) api.Decl {
	return api.Decl{Kind: api.DcField, Presence: api.Present, Label: label, Subs: []api.Expr{e}, Pos: at}
}

// TestExamples checks the examples of the chapter.
func TestExamples(t *testing.T) {
	for _, c := range []struct {
		s string
		f api.File
	}{
		{"a: 1, b: a & int", api.File{Decls: []api.Decl{
			field("a", num(1, 3), 0),
			field("b", api.Expr{Kind: api.ExAnd, Subs: []api.Expr{ref("a", 9), {Kind: api.ExType, Text: "int", Pos: 13}}, Pos: 9}, 6),
		}}},
		{"x: {y: z}", api.File{Decls: []api.Decl{field("x", api.Expr{Kind: api.ExStruct, Decls: []api.Decl{field("y", ref("z", 7), 4)}, Pos: 3}, 0)}}},
		{"x: 1 | {y: z}", api.File{Decls: []api.Decl{field("x", api.Expr{Kind: api.ExOr, Subs: []api.Expr{
			num(1, 3),
			{Kind: api.ExValue, Decls: []api.Decl{field("y", ref("z", 11), 8)}, Pos: 7},
		}, Pos: 3}, 0)}}},
	} {
		if f, fault := parser.File(c.s); fault != (api.Fault{}) || !reflect.DeepEqual(plainFile(f), c.f) {
			t.Errorf("File(%q): %v, %v", c.s, f, fault)
		}
	}
	if f, fault := parser.File("a: *1"); fault != syntaxAt(5) || !reflect.DeepEqual(f, api.File{}) {
		t.Errorf("File: %v, %v", f, fault)
	}
}

// TestFaults checks faults that the chapter names (P26.1); the offset is that of the byte "^", which is left out, and texts without it have no fault.
func TestFaults(t *testing.T) {
	for _, s := range []string{
		// The mark of a default needs another alternative.
		"a: *1^\n| 2", "a: (*1^)", "a: *1 +^", "[*1^]", "a: *1 ^// c", "a: *1 & 2 | 3", "a: *^*1 | 2", "a: (*1 | 2) | 3", "a: -^*1 | 2", "f(*1^)",
		// Structs that must be in conjunct position.
		"a: {let b = 1} ^| c", "a: {...} ^+ c", "a: {let b = 1}^.b", "a: {...}^[b]", "a: {...} & b", "a: b & {...} & c", "a: b & {...} ^| c", "a: b & {...} ^+ c", "a: b + c & {...}", "a: b | {^...}", "a: *{^...} | b", "a: -{^let b = 1}", "a: <{^...}", "a: b + {^...}", "a: b && {} + {^let c = 1}", "a: [{^...}]", "a: [...{^...}]", "a: [for k, v in {^...}: 1]", "a: [for k, v in b if {^...}: 1]", "a: [for k, v in b: {^...}]", "a: [for k, v in b if c: {^...}]", "a: f({^...})", "a: f(1, {^...})", "a: b[{^...}]", "a: ({...})", "a: (({...}) & b) ^== c", "a: {b: {...}} ^| c", "a: {b: c & ({...})} ^.b", "a: {[string]: {...}} ^| c", "a: {{...}} ^| c", "a: {let b = {}} ^| c", "a: {(b): {^...}}", "a: {if b {^...}}", "if a {b: {^...}}", "for k, v in {^let a = 1} {}", "({...})^: ", "({...})^: 1", "({let a = 1} & b)^: 1", "({}): 1", "({...}) & b", "({...}) ^| b", "a: {b: 1 | {^...}}", "a: {b: 1 | {}, ...}", "{...}", "{...} & a", "{...} ^| a", "let a = {...}", "let a = {...} ^| b", "a: {if b {c: {}}} | {}", "a: {let b = 1\n} ^< c",
		// Fields, patterns, computed labels and lists.
		"a ? ^b", "a !^1", "a? : 1", "a ?^\n: 1", "a\n^: 1", "a! \n: 1", "\"a b\"!: 1", "int^: 1", "a.b^: 1", "(a): 1", "(a)\n^: 1", "(a)^(", "(a) + b ^: c", "((a)): 1", "(a^: 1)", "[string]: 1", "[string]\n^: 1", "[\nstring\n]: 1", "[string ^string]: 1", "[a]^: 1", "[\"string\"]^: 1", "[]^: 1", "[=~a]^: 1", "[!~\"a\"]^: 1", "[string, int]^: 1", "[=~\"a\"]: 1", "[=~\n\"a\"\n]: 1", "[=~^\"(\"]: 1", "[=~\"(\"] & a", "[=~\"(\"^): 1", "[=~^\"\"]: 1", "[=~\"(\"].a^: 1", "[=~\"a\" & b]^: 1", "[for k, v in [=~\"(\"]: 1]", "a: [string]^: 1", "a: [1,^]", "a: [...]", "a: [1, ...]", "a: [...^, 1]", "a: [...1^, ]", "a: [...^,]", "a: [1 ^...]", "a: [for ^1, v in b: c]", "a: [for k, ^k in b: c]", "for k, ^k in a {}", "for k, v ^of a {}", "a: [for k, v in b if c: d]", "a: [for k, v in b ^{}: d]", "a: [... ^for k, v in b: c]", "a: [(^for k, v in b: c)]",
		// Words that are no names.
		"let ^int = 1", "let a ^: 1", "let a ^== 1", "a: ^in", "^in: 1", "a: ^__a", "a: b.^int", "a: b.\"int\"", "a: f()", "a: f(1,^)", "a: ^let", "package^", "import^: 1", "^#1", "a: (f)^(1)", "a: 1^(2)", "a: \"b\" ^\"c\"",
		// Packages and imports.
		"package p^", "package ^1\n", "package ^int\n", "package ^\"p\"\n", "package p\n", "package p,", "package p ^a: 1", "package p\n^package q\n", "import \"a\"^", "import \"a\"\n", "import ^\"a b\"\n", "import a \"b c\",", "import ^\"a/\"\n", "import ^\"int\"\n", "import ^int \"a\"\n", "import a ^b\n", "a: 1\n^import \"a\"\n", "package p\n,^import \"a\"\n", "\n", "import ^\"1\" x",
		// Interpolated strings.
		"a: \"b\\(c)\"", "a: ^\"b\\(c d)\"", "a: ^\"\\()\"", "a: ^\"\\(b // c)\"", "a: ^\"\\({...})\"", "a: ^\"\\(1 $ 2)\"", "a: \"\\({b: 1\nc: 2})\"", "a: \"\\(b\n+ c)\"", "a: \"\\(b\n(c))\"", "a: \"\\(b\n)\"", "a: ^\"\\(b)\\(*c)\"", "a: \"\\(*b | c)\"", "\"\\(b)\"^: 1", "a: b.^\"\\(c)\"", "import ^\"\\(a)\"\n", "a: ^\"\\((f)(1))\"", "a: ^\"\\(1,)\"",
		// Ends of lines.
		"a: 1 ^b: 2", "a: 1\nb: 2", "a:\n1", "a: 1\n^+ 2", "a: 1 +\n2", "a: (1\n+ 2)", "a: [1\n, 2]", "a: b\n[c]", "a: (b\n[c])", "a: ({b: 1\nc: 2})", "a: ({b: 1 ^c: 2})", "if a ^\n{}", "if a {}", "if^\na {}", "{a: 1^", "{^]", "^}", "a: {}^}", "a: (1^]", "",
	} {
		want := api.Fault{}
		if i := strings.IndexByte(s, '^'); i >= 0 {
			want = syntaxAt(i)
			s = s[:i] + s[i+1:]
		}
		if _, got := parser.File(s); got != want || faultOf(s, "File") != want {
			t.Errorf("File(%q): %v, want %v, and by the definition %v", s, got, want, faultOf(s, "File"))
		}
	}
}

// TestScanFaults checks that the faults of the lexer come first (P26.1).
func TestScanFaults(t *testing.T) {
	for _, s := range []string{"a b c $", "] #", "1.50", "\"a", strings.Repeat(" ", api.MaxText+1), "* \"\\q\"", "a: \"\\(\""} {
		_, want := token.Scan(s)
		f, got := parser.File(s)
		e, alone := parser.Expr(s)
		if want.Errno == api.OK || got != want || alone != want || !reflect.DeepEqual(f, api.File{}) || !reflect.DeepEqual(e, api.Expr{}) {
			t.Errorf("%.20q: %v, %v, want %v", s, got, alone, want)
		}
	}
	if _, f := parser.File("a: 1" + strings.Repeat(" ", api.MaxText-4)); f != (api.Fault{}) {
		t.Errorf("File: %v", f)
	}
}

// TestDepth checks the greatest number of levels, and that other faults come before that of too many (P26.1).
func TestDepth(t *testing.T) {
	for _, c := range [][3]string{{"-", "1", ""}, {"[", "", "]"}, {"{a: ", "", "}"}, {"1 + ", "1", ""}, {"f(", "", ")"}, {"", "a", ".b"}} {
		for n := range 40 {
			s := strings.Repeat(c[0], n) + c[1] + strings.Repeat(c[2], n)
			if c[1] == "" {
				s = strings.Repeat(c[0], n) + "1" + strings.Repeat(c[2], n)
			}
			levels := n + 1
			if c[0] == "{a: " {
				levels = 2*n + 1
			}
			want := api.Fault{}
			if levels > api.MaxDepth {
				want = api.Fault{Errno: api.ErrDepth}
			}
			if e, f := parser.Expr(s); f != want || f.Errno != api.OK && !reflect.DeepEqual(e, api.Expr{}) {
				t.Errorf("Expr(%q): %v, want %v", s, f, want)
			}
			if levels+1 > api.MaxDepth {
				want = api.Fault{Errno: api.ErrDepth}
			}
			if f, fault := parser.File("x: " + s); fault != want || fault.Errno != api.OK && !reflect.DeepEqual(f, api.File{}) {
				t.Errorf("File(%q): %v, want %v", s, fault, want)
			}
			if _, fault := parser.File("x: " + s + "\n]"); fault != syntaxAt(len(s)+4) {
				t.Errorf("File(%q): %v", s+"\n]", fault)
			}
		}
	}
	s := strings.Repeat("(", 30000) + "1" + strings.Repeat(")", 30000)
	if e, f := parser.Expr(s); f != (api.Fault{}) || !reflect.DeepEqual(e, num(1, 30000)) {
		t.Errorf("parentheses: %v", f)
	}
}

// TestDeep checks texts that are nested as deeply as a text can be (P26.1).
func TestDeep(t *testing.T) {
	for _, s := range []string{"(", "{", "[", "-", "f(", "{a:", "a:{", "(-", "a[", "1+", "if{", "[for a,b in ", "[{", "a."} {
		n := (api.MaxText - 20) / len(s)
		text := strings.Repeat(s, n)
		if _, f := parser.File(text); f.Errno != api.ErrSyntax || f.At < len(text)-len(s)-4 {
			t.Errorf("File of many %q: %v", s, f)
		}
	}
	for _, c := range [][3]string{{"{", "", "}"}, {"[", "", "]"}, {"-", "1", ""}, {"{a:", "1", "}"}, {"if 1{", "", "}"}, {"({", "", "})"}} {
		n := (api.MaxText - 20) / len(c[0]+c[2])
		if _, f := parser.File(strings.Repeat(c[0], n) + c[1] + strings.Repeat(c[2], n)); f != (api.Fault{Errno: api.ErrDepth}) {
			t.Errorf("File of many %q: %v", c[0], f)
		}
	}
	long := strings.Repeat("a:1,", api.MaxText/4)
	if f, fault := parser.File(long); fault != (api.Fault{}) || len(f.Decls) != api.MaxText/4 {
		t.Errorf("many declarations: %v", fault)
	}
}

// TestComments checks where comments stand (P26.1, P26.2).
func TestComments(t *testing.T) {
	type place struct {
		lead, tail []string
		trail      string
	}
	for _, c := range []struct {
		s    string
		want []place // of the declarations, and the Tail of the file as that of the last one
	}{
		{"a: 1 // x", []place{{trail: " x"}, {}}},
		{"a: 1, // x\n// y", []place{{trail: " x"}, {tail: []string{" y"}}}},
		{"a: 1,, // x\n,// y\nb: 2", nil},
		{"a: 1,, // x\n\n\t// y\n,\n//z\n\nb: 2", []place{{trail: " x"}, {lead: []string{" y", "z"}}, {}}},
		{"a: 1\n, // x", nil},
		{"a: 1,\n, // x", nil},
		{"// x\na: 1", []place{{lead: []string{" x"}}, {}}},
		{"// x", []place{{tail: []string{" x"}}}},
		{"//\n//\n", []place{{tail: []string{"", ""}}}},
		{", // x\na: 1", nil},
		{",\n// x\n,a: 1", []place{{lead: []string{" x"}}, {}}},
		{"// x\npackage p\n// y\nimport \"a\"\n// z\na: 1", []place{{lead: []string{" x", " y", " z"}}, {}}},
		{"// x\npackage p\n// y\nimport \"a\"\n", []place{{tail: []string{" x", " y"}}}},
		{"package p // x\n", nil},
		{"package p, // x\n", nil},
		{"import \"a\" // x\n", nil},
		{"import \"a\"\n// x\nimport \"b\"\n", nil},
		{"// x\nimport \"a\"\n", []place{{tail: []string{" x"}}}},
		{"package // x\np\n", nil},
		{"a: { // x\n}", nil},
		{"a: // x\n1", nil},
		{"a // x\n: 1", nil},
		{"a: [1, // x\n2]", nil},
		{"a: (1 // x\n)", nil},
		{"a: f(1 // x\n)", nil},
		{"if a // x\n{}", nil},
		{"if a {} // x", []place{{trail: " x"}, {}}},
		{"a: {\nb: 1} // x\n", []place{{trail: " x"}, {}}},
		{"a: 1 + // x\n2", nil},
		{"a: \"\\(b\n)\" // x", []place{{trail: " x"}, {}}},
		{"a: 1 //", []place{{}, {}}},
		{"// x\r\na: 1 // y\r\n", []place{{lead: []string{" x\r"}, trail: " y\r"}, {}}},
		{"(a // x\n): 1", nil},
		{"[string // x\n]: 1", nil},
		{"... // x", []place{{trail: " x"}, {}}},
		{"{} // x\n", []place{{trail: " x"}, {}}},
	} {
		f, fault := parser.File(c.s)
		if c.want == nil {
			if fault.Errno != api.ErrSyntax || fault != faultOf(c.s, "File") {
				t.Errorf("File(%q): %v", c.s, fault)
			}
			continue
		}
		var got []place
		for _, d := range f.Decls {
			got = append(got, place{lead: strs(d.Lead), trail: d.Trail})
		}
		got = append(got, place{tail: strs(f.Tail)})
		if fault != (api.Fault{}) || !reflect.DeepEqual(got, c.want) {
			t.Errorf("File(%q): %q, %v", c.s, got, fault)
		}
	}
	const s = "a: {\n// 1\nb: 1 // 2\n// 3\n}\nif b {\n// 4\n}\nfor k, v in b {c: {// 5\n}\n}"
	if _, f := parser.File(s); f != syntaxAt(strings.Index(s, "// 5")) {
		t.Errorf("File(%q): %v", s, f)
	}
	inner := "a: {\n// 1\nb: 1 // 2\n// 3\n}\nif b {\n// 4\n}\nfor k, v in b {c: {\n// 5\n}\n// 6\n} // 7\n// 8"
	f, fault := parser.File(inner)
	if fault != (api.Fault{}) || !slices.Equal(syntax.Comments(f), []string{" 1", " 2", " 3", " 4", " 5", " 6", " 7", " 8"}) {
		t.Errorf("Comments: %q, %v", syntax.Comments(f), fault)
	}
	if d := f.Decls; !slices.Equal(d[0].Subs[0].Tail, []string{" 3"}) || !slices.Equal(d[1].Tail, []string{" 4"}) || !slices.Equal(d[2].Body[0].Subs[0].Tail, []string{" 5"}) || !slices.Equal(d[2].Tail, []string{" 6"}) || d[2].Trail != " 7" {
		t.Errorf("Tail: %v", f)
	}
}

// TestExprFaults checks the faults of expressions alone (P26.1).
func TestExprFaults(t *testing.T) {
	for _, s := range []string{"", "1", "1\n", " 1 \n\n ", "1 2", "1,", "1\n2", "1\n+ 2", "f\n(1)", "a\n[1]", "1\n,", "// a\n1", "1 // a", "1\n// a", "{a: 1 // a\n}", "{a: 1} // b", "{\n// a\n}", "a: 1", "{...}", "{...} & a", "{...} | a", "({let a = 1})", "*1 | 2", "*1", "...", "(1", "(1\n)\n", "let a = 1", "if a {}", "[string]: 1", "[string]", "[=~\"(\"]", "{[=~\"(\"]: 1}", "for", "in", "\"\\({...})\"", "-{...}"} {
		e, got := parser.Expr(s)
		if want := faultOf(s, "Alone"); got != want || got.Errno != api.OK && !reflect.DeepEqual(e, api.Expr{}) {
			t.Errorf("Expr(%q): %v, want %v", s, got, want)
		}
	}
	for s, want := range map[string]api.Fault{"": syntaxAt(0), "1 // a": syntaxAt(2), "// a\n1": syntaxAt(0), "1\n": {}, "1,": syntaxAt(1), "1\n+ 2": syntaxAt(2), "{a: 1 // a\n}": {}, "{...} | a": syntaxAt(6)} {
		if _, got := parser.Expr(s); got != want {
			t.Errorf("Expr(%q): %v, want %v", s, got, want)
		}
	}
}

// TestExprs compares the trees of expressions alone, in parentheses and in a field (P26.1, P26.2).
func TestExprs(t *testing.T) {
	x := random(263)
	for range 3000 {
		w := &writer{random: &x, lines: true, levels: 1 + x.below(14)}
		want := plainExprs([]api.Expr{w.expression(true)})[0]
		s := w.text + pick(&x, "", "\n", " \n\n")
		e, f := parser.Expr(s)
		if f != (api.Fault{}) || !reflect.DeepEqual(plainExprs([]api.Expr{e})[0], want) {
			t.Fatalf("Expr(%q): %v, %v, want %v", s, e, f, want)
		}
		inside, f := parser.Expr("(" + s + ")")
		if f != (api.Fault{}) || !syntax.EqualExpr(inside, e) {
			t.Fatalf("Expr(%q) in parentheses: %v, %v", s, inside, f)
		}
		file, f := parser.File("x: " + s)
		if f != (api.Fault{}) || !syntax.Equal(file, api.File{Decls: []api.Decl{field("x", e, 0)}}) {
			t.Fatalf("a field with %q: %v, %v", s, file, f)
		}
		if syntax.CheckExpr(e) != api.OK || syntax.Check(file) != api.OK {
			t.Fatalf("the tree of %q is not valid", s)
		}
	}
}

// spaced returns a text with further blanks in front of tokens other than line ends.
func spaced(x *random, s string) string {
	l, _ := scan(s)
	for i := len(l) - 1; i >= 0; i-- {
		if l[i].Kind != api.TokLine {
			s = s[:l[i].Pos] + pick(x, "", " ", "\t", " \t ") + s[l[i].Pos:]
		}
	}
	return s
}

// TestFiles checks that blanks do not matter, and that files can be joined (P26.2).
func TestFiles(t *testing.T) {
	x := random(264)
	joined := 0
	for range 2000 {
		w, v := &writer{random: &x, levels: 1 + x.below(6)}, &writer{random: &x, levels: 1 + x.below(6)}
		w.file()
		v.file()
		f, _ := parser.File(w.text)
		g, _ := parser.File(v.text)
		if blanks, fault := parser.File(spaced(&x, w.text)); fault != (api.Fault{}) || !syntax.Equal(blanks, f) {
			t.Fatalf("%q with blanks: %v", w.text, fault)
		}
		if len(f.Tail) > 0 || g.Package != "" || len(g.Imports) > 0 {
			continue
		}
		joined++
		want := api.File{Package: f.Package, Imports: f.Imports, Decls: slices.Concat(f.Decls, g.Decls), Tail: g.Tail}
		if got, fault := parser.File(w.text + "\n" + v.text); fault != (api.Fault{}) || !syntax.Equal(got, want) {
			t.Fatalf("%q and %q: %v, %v, want %v", w.text, v.text, got, fault, want)
		}
	}
	if joined < 100 {
		t.Errorf("%d files joined", joined)
	}
}
