package properties_test

import (
	"reflect"
	"slices"
	"strings"
	"testing"

	"configlang/api"
	"configlang/data"
	"configlang/properties"
	"configlang/steps"
)

// random returns numbers that are the same in each run.
type random uint64

func (x *random) below(n int) int {
	*x = *x*6364136223846793005 + 1442695040888963407
	return int(uint64(*x)>>33) % n
}

// Data of each kind.
func null() api.Data              { return api.Data{Kind: api.Null} }
func boolean(n int64) api.Data    { return api.Data{Kind: api.Bool, Num: n} }
func number(u int64) api.Data     { return api.Data{Kind: api.Number, Num: u} }
func text(s string) api.Data      { return api.Data{Kind: api.String, Str: s} }
func list(l ...api.Data) api.Data { return api.Data{Kind: api.List, Items: l} }
func object(l ...api.Member) api.Data {
	return api.Data{Kind: api.Struct, Members: l}
}
func member(label string, d api.Data) api.Member { return api.Member{Label: label, Data: d} }

// nested returns d inside n lists.
func nested(d api.Data, n int) api.Data {
	for range n {
		d = list(d)
	}
	return d
}

// some returns valid data with at most the given number of levels.
func some(x *random, levels int) api.Data {
	words := []string{"a", "b", "#d", "x y", "null", "a = b", " = 1", "= ", "\" = 1", "a.b", "[0]", "//", "\n", "\xff", "c", "1", "\\", " = \"x\"", "z"}
	d := api.Data{Kind: 1 + x.below(4)}
	if levels > 1 {
		d.Kind = 1 + x.below(6)
	}
	switch d.Kind {
	case api.Bool:
		d.Num = int64(x.below(2))
	case api.Number:
		d.Num = []int64{0, 1, -1, 10000, 15000, -120, -api.MaxUnits, api.MaxUnits - 1, api.MaxUnits}[x.below(9)]
	case api.String:
		d.Str = []string{"", words[x.below(len(words))]}[min(x.below(5), 1)]
	case api.List:
		for range x.below(4) {
			d.Items = append(d.Items, some(x, levels-1))
		}
	case api.Struct:
		seen := map[string]bool{}
		for range x.below(4) {
			if s := words[x.below(len(words))]; !seen[s] {
				seen[s] = true
				d.Members = append(d.Members, member(s, some(x, levels-1)))
			}
		}
	}
	made, _ := data.Make(d)
	return made
}

// path returns the path of a text.
func path(t *testing.T, s string) []api.Step {
	t.Helper()
	l, f := steps.Parse(s)
	if f != (api.Fault{}) {
		t.Fatalf("path %q: %v", s, f)
	}
	return l
}

// shuffle brings a list into another order.
func shuffle[T any](x *random, l []T) []T {
	l = slices.Clone(l)
	for i := len(l) - 1; i > 0; i-- {
		j := x.below(i + 1)
		l[i], l[j] = l[j], l[i]
	}
	return l
}

// TestExamples checks the example of the chapter.
func TestExamples(t *testing.T) {
	d := object(member("a", object(member("b", number(10000)))), member("c", list(text("x"))))
	if s, e := properties.Text(d); s != "a.b = 1\nc[0] = \"x\"\n" || e != api.OK {
		t.Errorf("Text: %q, %d", s, e)
	}
	if got, f := properties.Parse("c[0] = \"x\"\na.b = 1"); f != (api.Fault{}) || !reflect.DeepEqual(got, d) {
		t.Errorf("Parse: %v, %v", got, f)
	}
}

// TestFlatten compares the entries with the leaves of data (P39.1).
func TestFlatten(t *testing.T) {
	x := random(39)
	for range 2000 {
		d := some(&x, 5)
		l, e := properties.Flatten(d)
		leaves := data.Leaves(d)
		if e != api.OK || len(l) != len(leaves) {
			t.Fatalf("Flatten(%v): %v, %d", d, l, e)
		}
		for i, x := range l {
			want, _ := data.Get(d, leaves[i])
			if !slices.Equal(x.Path, leaves[i]) || !reflect.DeepEqual(x.Data, want) {
				t.Fatalf("Flatten(%v): entry %d is %v", d, i, x)
			}
		}
	}
	for _, c := range []struct {
		d api.Data
		e api.Errno
	}{
		{list(api.Data{}), api.ErrKind}, {boolean(2), api.ErrRange}, {object(member("a", null()), member("a", null())), api.ErrTwice}, {nested(null(), 16), api.ErrDepth},
		{object(member("", null())), api.ErrName}, {list(null(), object(member("", list(list()))), null()), api.ErrName}, {object(member("", list()), member("a", null())), api.ErrName}, {object(member("", object())), api.ErrName}, {object(member("", api.Data{})), api.ErrKind}, {object(member("", null()), member("", null())), api.ErrTwice},
	} {
		if l, e := properties.Flatten(c.d); e != c.e || len(l) != 0 {
			t.Errorf("Flatten(%v): %v, %d, want %d", c.d, l, e, c.e)
		}
		if s, e := properties.Text(c.d); e != c.e || s != "" {
			t.Errorf("Text(%v): %q, %d, want %d", c.d, s, e, c.e)
		}
	}
	for _, d := range []api.Data{null(), list(), object(), text("")} {
		if l, e := properties.Flatten(d); e != api.OK || !reflect.DeepEqual(l, []properties.Entry{{Data: d}}) {
			t.Errorf("Flatten(%v): %v, %d", d, l, e)
		}
	}
}

// TestBuild checks which entries are data, and which error comes first (P39.1).
func TestBuild(t *testing.T) {
	step := func(label string, index int) []api.Step { return []api.Step{{Label: label, Index: index}} }
	at := func(s string, d api.Data) properties.Entry { return properties.Entry{Path: path(t, s), Data: d} }
	one := func(paths ...string) []properties.Entry {
		var l []properties.Entry
		for _, s := range paths {
			l = append(l, at(s, null()))
		}
		return l
	}
	long := strings.Repeat("[0]", 16)
	endless := slices.Repeat(step("a", 0), 3000000)
	badPath := func(l []api.Step) properties.Entry { return properties.Entry{Path: l, Data: null()} }
	for i, c := range []struct {
		l []properties.Entry
		e api.Errno
	}{
		{append(one("a", "a"), badPath(step("", -1))), api.ErrKind}, {append(one("b"), badPath(step("a", 1))), api.ErrKind}, {[]properties.Entry{badPath(step("", 1000001))}, api.ErrKind}, {append(one("a", "a"), at("b", list(null()))), api.ErrKind}, {append(one("a[1]"), at("b", object(member("a", null())))), api.ErrKind}, {[]properties.Entry{at("a", api.Data{})}, api.ErrKind}, {[]properties.Entry{at("a", boolean(2))}, api.ErrKind}, {[]properties.Entry{at("a", api.Data{Kind: api.String, Num: 1})}, api.ErrKind}, {[]properties.Entry{{}}, api.ErrKind}, {[]properties.Entry{at(long, nested(null(), 20))}, api.ErrKind},
		{one("a", "b", "a"), api.ErrTwice}, {one(".", "a"), api.ErrTwice}, {one(".", "."), api.ErrTwice}, {one("a.b", "a"), api.ErrTwice}, {one("a", "a[0]"), api.ErrTwice}, {one("a[0]", "a.b", "b", "b"), api.ErrTwice}, {one("[5].a.b.c", "x", "[5].a"), api.ErrTwice}, {one(long, long), api.ErrTwice}, {one("a.b.c", "a.b.d", "a.b", "a.a"), api.ErrTwice}, {one("[1]", "[1]"), api.ErrTwice},
		{nil, api.ErrText}, {one("[1]"), api.ErrText}, {one("[0]", "[2]"), api.ErrText}, {one("[0]", "a"), api.ErrText}, {one("a.b", "a[0]"), api.ErrText}, {one("a", "b[0]", "b[1].x", "b[1][0]"), api.ErrText}, {one("a[0].b[1]"), api.ErrText}, {one("a[0]", "a[1]", "a[3].b"), api.ErrText}, {one("[1]", "[2]"), api.ErrText}, {one(long+"[1]", "[1]"), api.ErrText}, {one(long, "a"), api.ErrText}, {one("a[1000000]"), api.ErrText}, {one("a[0][0]", "a[0][1]", "a[1][1]"), api.ErrText},
		{one(long), api.ErrDepth}, {one("[1]", long), api.ErrDepth}, {one("a", "b", long[3:]+".b"), api.ErrText}, {one(long[3:] + ".b"), api.ErrDepth}, {[]properties.Entry{badPath(endless)}, api.ErrDepth}, {append(one("b"), badPath(endless)), api.ErrDepth}, {append(one("[0]"), badPath(endless)), api.ErrText},
	} {
		if d, e := properties.Build(c.l); e != c.e || !reflect.DeepEqual(d, api.Data{}) {
			t.Errorf("case %d: %v, %d, want %d", i, d, e, c.e)
		}
	}
	for i, c := range []struct {
		l    []properties.Entry
		want api.Data
	}{
		{[]properties.Entry{at(".", text("x"))}, text("x")}, {[]properties.Entry{at(".", object())}, object()}, {[]properties.Entry{{Data: list()}}, list()}, {one(long[3:]), nested(null(), 15)},
		{one("[1]", "[0]"), list(null(), null())}, {[]properties.Entry{at("b[1].x", number(2)), at("a", text("")), at("b[0]", object()), at("b[1].\"\\n\"", list())}, object(member("a", text("")), member("b", list(object(), object(member("\n", list()), member("x", number(2))))))},
	} {
		d, e := properties.Build(c.l)
		if !reflect.DeepEqual(d, c.want) || e != api.OK {
			t.Errorf("case %d: %v, %d, want %v", i, d, e, c.want)
		}
	}
	var many []properties.Entry
	for i := range 30000 {
		many = append(many, properties.Entry{Path: step("", 29999-i), Data: number(int64(i))})
	}
	if d, e := properties.Build(many); e != api.OK || len(d.Items) != 30000 || d.Items[0].Num != 29999 {
		t.Errorf("many items: %d, %d", len(d.Items), e)
	}
}

// TestRoundTrip checks that entries in any order, and texts with their lines in any order, give the data again (P39.3).
func TestRoundTrip(t *testing.T) {
	x := random(40)
	for range 3000 {
		d := some(&x, 5)
		l, _ := properties.Flatten(d)
		shuffled := shuffle(&x, l)
		before := slices.Clone(shuffled)
		if got, e := properties.Build(shuffled); e != api.OK || !reflect.DeepEqual(got, d) || !reflect.DeepEqual(before, shuffled) {
			t.Fatalf("Build(%v): %v, %d, want %v", l, got, e, d)
		}
		s, e := properties.Text(d)
		lines := strings.SplitAfter(s, "\n")
		lines = lines[:len(lines)-1]
		if e != api.OK || len(lines) != len(l) {
			t.Fatalf("Text(%v): %q, %d", d, s, e)
		}
		lines = append(shuffle(&x, lines), "\n", "// x = 1\n", "//\n")
		for _, form := range []string{s, strings.TrimSuffix(s, "\n"), strings.Join(shuffle(&x, lines), "")} {
			if got, f := properties.Parse(form); f != (api.Fault{}) || !reflect.DeepEqual(got, d) {
				t.Fatalf("Parse(%q): %v, %v, want %v", form, got, f, d)
			}
		}
	}
}

// TestText checks the lines of a few kinds of data (P39.2).
func TestText(t *testing.T) {
	for _, c := range []struct {
		d    api.Data
		want string
	}{
		{null(), ". = null\n"}, {list(), ". = []\n"}, {object(), ". = {}\n"}, {number(-15000), ". = -1.5\n"}, {text("a\nb"), ". = \"a\\nb\"\n"}, {list(boolean(0), list(boolean(1))), "[0] = false\n[1][0] = true\n"},
		{object(member("a = 1", object(member("int", list(object())))), member("b", null())), "\"a = 1\".\"int\"[0] = {}\nb = null\n"},
	} {
		if s, e := properties.Text(c.d); s != c.want || e != api.OK {
			t.Errorf("Text(%v): %q, %d, want %q", c.d, s, e, c.want)
		}
	}
}

// TestParse checks which texts are permitted, and the faults of others (P39.2).
func TestParse(t *testing.T) {
	fault := func(e api.Errno, at int) api.Fault { return api.Fault{Errno: e, At: at} }
	for s, want := range map[string]api.Fault{
		"": fault(api.ErrText, 0), "\n\n// a\n": fault(api.ErrText, 0),
		"a": fault(api.ErrText, 1), "a=1": fault(api.ErrText, 1), "a = ": fault(api.ErrText, 1), "a =1": fault(api.ErrText, 1), "a  = 1": fault(api.ErrText, 1), "a =  1": fault(api.ErrText, 1), "a = 1 ": fault(api.ErrText, 1), " a = 1": fault(api.ErrText, 1), " // a": fault(api.ErrText, 1), " ": fault(api.ErrText, 1), " = 1": fault(api.ErrText, 1), "/ = 1": fault(api.ErrText, 1), "a = 1\r": fault(api.ErrText, 1),
		"a = 1.50": fault(api.ErrText, 1), "a = 01": fault(api.ErrText, 1), "a = -0": fault(api.ErrText, 1), "a = +1": fault(api.ErrText, 1), "a = 1.": fault(api.ErrText, 1), "a = .5": fault(api.ErrText, 1), "a = 1.00001": fault(api.ErrText, 1), "a = 100000000001": fault(api.ErrText, 1), "a = 99999999999999999999": fault(api.ErrText, 1), "a = 1e1": fault(api.ErrText, 1), "a = 1_0": fault(api.ErrText, 1), "a = 0x1": fault(api.ErrText, 1), "a = x": fault(api.ErrText, 1), "a = True": fault(api.ErrText, 1), "a = [1]": fault(api.ErrText, 1), "a = [ ]": fault(api.ErrText, 1), "a = {a: 1}": fault(api.ErrText, 1), "a = \"x": fault(api.ErrText, 1), "a = \"\\q\"": fault(api.ErrText, 1), "a = \"\\x41\"": fault(api.ErrText, 1), "a = \"\\xFF\"": fault(api.ErrText, 1), "a = \"\xff\"": fault(api.ErrText, 1),
		"\"a\" = 1": fault(api.ErrText, 1), ".a = 1": fault(api.ErrText, 1), "a. = 1": fault(api.ErrText, 1), "a[01] = 1": fault(api.ErrText, 1), "a[-1] = 1": fault(api.ErrText, 1), "a[1000001] = 1": fault(api.ErrText, 1), "a b = 1": fault(api.ErrText, 1), "int = 1": fault(api.ErrText, 1), "\"\" = 1": fault(api.ErrText, 1),
		"a = 1 = 2": fault(api.ErrText, 1), "a = b = 2": fault(api.ErrText, 1), "a = 1\n\n// x\nb\nc": fault(api.ErrText, 4), "a = 1\na = 2\nx": fault(api.ErrText, 3), "a = \"x = 1": fault(api.ErrText, 1),
		"a = 1\na = 1": fault(api.ErrTwice, 0), "a = 1\na.b = 1": fault(api.ErrTwice, 0), ". = 1\na = 1": fault(api.ErrTwice, 0), "a[1] = 1": fault(api.ErrText, 0), "a = 1\n[0] = 1": fault(api.ErrText, 0), strings.Repeat("[0]", 16) + " = 1": fault(api.ErrDepth, 0), "a" + strings.Repeat(".b", 20000) + " = []": fault(api.ErrDepth, 0),
		strings.Repeat("\n", api.MaxText+1): fault(api.ErrSize, 0), strings.Repeat("\n", api.MaxText): fault(api.ErrText, 0), strings.Repeat("x", api.MaxText): fault(api.ErrText, 1), strings.Repeat(" = \"", api.MaxText/4): fault(api.ErrText, 1), strings.Repeat(" = .", api.MaxText/4): fault(api.ErrText, 1),
	} {
		if d, f := properties.Parse(s); f != want || !reflect.DeepEqual(d, api.Data{}) {
			t.Errorf("Parse(%.60q): %v, %v, want %v", s, d, f, want)
		}
	}
	for s, want := range map[string]api.Data{
		". = 1": number(10000), ". = \"\"": text(""), "\n// x\n. = []\n": list(), "a = \" = 1\"": object(member("a", text(" = 1"))), "\"a = b\" = 1": object(member("a = b", number(10000))), "\" = \".b = \" = \"": object(member(" = ", object(member("b", text(" = "))))), "\"// a\" = null": object(member("// a", null())), "[0] = 1\n[1].a = {}": list(number(10000), object(member("a", object()))), "a = -100000000000\nb = 99999999999.9999": object(member("a", number(-api.MaxUnits)), member("b", number(api.MaxUnits-1))), "a = -99999999999.9999": object(member("a", number(1-api.MaxUnits))),
		"\"\\\" = 1\" = 2": object(member("\" = 1", number(20000))), "a = \"// x\"": object(member("a", text("// x"))), strings.Repeat("[0]", 15) + " = 1": nested(number(10000), 15),
	} {
		if d, f := properties.Parse(s); f != (api.Fault{}) || !reflect.DeepEqual(d, want) {
			t.Errorf("Parse(%.60q): %v, %v, want %v", s, d, f, want)
		}
	}
}
