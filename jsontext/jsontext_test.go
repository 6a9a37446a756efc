package jsontext_test

import (
	"encoding/json"
	"errors"
	"io"
	"math"
	"reflect"
	"strings"
	"testing"

	"configlang/api"
	"configlang/data"
	"configlang/fixed"
	"configlang/jsontext"
)

// random returns numbers that are the same in each run.
type random uint64

func (x *random) below(n int) int {
	*x = *x*6364136223846793005 + 1442695040888963407
	return int(uint64(*x)>>33) % n
}

// Data of each kind.
func null() api.Data              { return api.Data{Kind: api.Null} }
func boolean(n int64) api.Data    { return api.Data{Kind: api.Bool, Num: n} }
func number(u int64) api.Data     { return api.Data{Kind: api.Number, Num: u} }
func text(s string) api.Data      { return api.Data{Kind: api.String, Str: s} }
func list(l ...api.Data) api.Data { return api.Data{Kind: api.List, Items: l} }
func object(l ...api.Member) api.Data {
	return api.Data{Kind: api.Struct, Members: l}
}
func member(label string, d api.Data) api.Member { return api.Member{Label: label, Data: d} }

// some returns valid data with at most the given number of levels.
func some(x *random, levels int) api.Data {
	kind := 1 + x.below(6)
	if levels == 1 {
		kind = 1 + x.below(4)
	}
	d := api.Data{Kind: kind}
	switch kind {
	case api.Bool:
		d.Num = int64(x.below(2))
	case api.Number:
		d.Num = []int64{0, 1, -1, 10000, 15000, -120, api.MaxUnits, -api.MaxUnits, int64(x.below(1 << 30))}[x.below(9)]
	case api.String:
		d.Str = someString(x)
	case api.List:
		for range x.below(4) {
			d.Items = append(d.Items, some(x, levels-1))
		}
	case api.Struct:
		seen := map[string]bool{}
		for range x.below(4) {
			if s := someString(x); !seen[s] {
				seen[s] = true
				d.Members = append(d.Members, member(s, some(x, levels-1)))
			}
		}
	}
	made, _ := data.Make(d)
	return made
}

// someString returns a string of any bytes.
func someString(x *random) string {
	b := make([]byte, x.below(4))
	for i := range b {
		b[i] = byte(x.below(256))
	}
	return string(b)
}

// nested returns d inside n lists.
func nested(d api.Data, n int) api.Data {
	for range n {
		d = list(d)
	}
	return d
}

// TestExamples checks the examples of the chapter.
func TestExamples(t *testing.T) {
	d := object(member("a", number(15000)), member("b", list(null())))
	if s, e := jsontext.Text(d); s != `{"a":1.5,"b":[null]}` || e != api.OK {
		t.Errorf("Text: %s, %d", s, e)
	}
	if s, e := jsontext.Indent(d); s != "{\n\t\"a\": 1.5,\n\t\"b\": [\n\t\tnull\n\t]\n}" || e != api.OK {
		t.Errorf("Indent: %s, %d", s, e)
	}
	if s, _ := jsontext.Text(text("\xff")); s != `"\u00ff"` {
		t.Errorf("Text: %s", s)
	}
	if d, f := jsontext.Parse("1.50"); !reflect.DeepEqual(d, number(15000)) || f != (api.Fault{}) {
		t.Errorf("Parse: %v, %v", d, f)
	}
}

// TestText checks the texts of data, on one line and on several ones (P37.1).
func TestText(t *testing.T) {
	inner := list(object(), list(), object(member("", text(""))))
	for _, c := range []struct {
		d            api.Data
		text, indent string
	}{
		{null(), "null", ""}, {boolean(0), "false", ""}, {boolean(1), "true", ""}, {number(0), "0", ""}, {number(-1), "-0.0001", ""}, {number(api.MaxUnits), "100000000000", ""}, {list(), "[]", ""}, {object(), "{}", ""},
		{text("\"\\/\b\t\n\f\r\x00\x1f ~\x7f\x80\xff\v"), `"\"\\/\b\t\n\f\r\u0000\u001f ~\u007f\u0080\u00ff\u000b"`, ""}, {text("\x1a\xab\xcd"), `"\u001a\u00ab\u00cd"`, ""},
		{list(null(), number(20000)), "[null,2]", "[\n\tnull,\n\t2\n]"},
		{object(member("a", inner), member("b\n", boolean(1))), `{"a":[{},[],{"":""}],"b\n":true}`, "{\n\t\"a\": [\n\t\t{},\n\t\t[],\n\t\t{\n\t\t\t\"\": \"\"\n\t\t}\n\t],\n\t\"b\\n\": true\n}"},
		{nested(null(), 15), "[[[[[[[[[[[[[[[null]]]]]]]]]]]]]]]", "[\n\t[\n\t\t[\n\t\t\t[\n\t\t\t\t[\n\t\t\t\t\t[\n\t\t\t\t\t\t[\n\t\t\t\t\t\t\t[\n\t\t\t\t\t\t\t\t[\n\t\t\t\t\t\t\t\t\t[\n\t\t\t\t\t\t\t\t\t\t[\n\t\t\t\t\t\t\t\t\t\t\t[\n\t\t\t\t\t\t\t\t\t\t\t\t[\n\t\t\t\t\t\t\t\t\t\t\t\t\t[\n\t\t\t\t\t\t\t\t\t\t\t\t\t\t[\n\t\t\t\t\t\t\t\t\t\t\t\t\t\t\tnull\n\t\t\t\t\t\t\t\t\t\t\t\t\t\t]\n\t\t\t\t\t\t\t\t\t\t\t\t\t]\n\t\t\t\t\t\t\t\t\t\t\t\t]\n\t\t\t\t\t\t\t\t\t\t\t]\n\t\t\t\t\t\t\t\t\t\t]\n\t\t\t\t\t\t\t\t\t]\n\t\t\t\t\t\t\t\t]\n\t\t\t\t\t\t\t]\n\t\t\t\t\t\t]\n\t\t\t\t\t]\n\t\t\t\t]\n\t\t\t]\n\t\t]\n\t]\n]"},
	} {
		if c.indent == "" {
			c.indent = c.text
		}
		if s, e := jsontext.Text(c.d); s != c.text || e != api.OK {
			t.Errorf("Text(%v): %q, %d, want %q", c.d, s, e, c.text)
		}
		if s, e := jsontext.Indent(c.d); s != c.indent || e != api.OK {
			t.Errorf("Indent(%v): %q, %d, want %q", c.d, s, e, c.indent)
		}
	}
	for want, d := range map[api.Errno]api.Data{api.ErrKind: list(api.Data{}), api.ErrRange: boolean(2), api.ErrTwice: object(member("b", null()), member("a", null())), api.ErrDepth: nested(null(), 16)} {
		if s, e := jsontext.Text(d); s != "" || e != want {
			t.Errorf("Text(%v): %q, %d, want %d", d, s, e, want)
		}
		if s, e := jsontext.Indent(d); s != "" || e != want {
			t.Errorf("Indent(%v): %q, %d, want %d", d, s, e, want)
		}
	}
}

// TestRoundTrip checks that texts are parsed unchanged, with whatever blanks, and are JSON (P37.3).
func TestRoundTrip(t *testing.T) {
	x := random(37)
	for range 3000 {
		d := some(&x, 5)
		s, _ := jsontext.Text(d)
		indented, _ := jsontext.Indent(d)
		var spaced strings.Builder
		inside := false
		for i := range len(indented) {
			c := indented[i]
			backslashes := i - len(strings.TrimRight(indented[:i], `\`))
			if c == '"' && backslashes%2 == 0 {
				inside = !inside
			}
			spaced.WriteByte(c)
			if !inside && strings.IndexByte("[]{},: \n\t\"", c) >= 0 {
				spaced.WriteString([]string{"", " ", "\t\r\n", "\n"}[x.below(4)])
			}
		}
		for _, form := range []string{s, indented, " \n" + s + "\t\r", spaced.String()} {
			if got, f := jsontext.Parse(form); !reflect.DeepEqual(got, d) || f != (api.Fault{}) {
				t.Fatalf("Parse(%q): %v, %v, want %v", form, got, f, d)
			}
		}
		if !json.Valid([]byte(s)) || !json.Valid([]byte(indented)) {
			t.Fatalf("not JSON: %q", s)
		}
	}
}

// TestNumbers checks which numbers are permitted, and what they are (P37.2).
func TestNumbers(t *testing.T) {
	for s, want := range map[string]int64{
		"0": 0, "-0": 0, "0.0": 0, "-0.0000": 0, "1": 10000, "-1": -10000, "1.5": 15000, "1.50": 15000, "1.5000": 15000, "0.0001": 1, "-0.0001": -1, "-0.0010": -10, "100000000000": api.MaxUnits, "-100000000000.0000": -api.MaxUnits, "99999999999.9999": api.MaxUnits - 1, "10": 100000, "907.060": 9070600,
	} {
		if d, f := jsontext.Parse(s); !reflect.DeepEqual(d, number(want)) || f != (api.Fault{}) {
			t.Errorf("Parse(%s): %v, %v", s, d, f)
		}
		if d, f := jsontext.Parse("[" + s + " ]"); !reflect.DeepEqual(d, list(number(want))) || f != (api.Fault{}) {
			t.Errorf("Parse([%s ]): %v, %v", s, d, f)
		}
	}
	for u := int64(-30000); u < 30000; u += 7 {
		s := fixed.Text(u)
		for zeros := range 3 {
			if strings.Contains(s, ".") && len(s)-strings.Index(s, ".") <= 4-zeros {
				s += "0"
			}
			if d, f := jsontext.Parse(s); d.Num != u || f != (api.Fault{}) {
				t.Errorf("Parse(%s): %v, %v", s, d, f)
			}
		}
	}
}

// TestFaults checks faults of each kind, and which comes first (P37.2).
func TestFaults(t *testing.T) {
	long := strings.Repeat("1", 60000)
	fault := func(e api.Errno, at int) api.Fault { return api.Fault{Errno: e, At: at} }
	for s, want := range map[string]api.Fault{
		"": fault(api.ErrText, 0), "  \n": fault(api.ErrText, 3), "01": fault(api.ErrText, 1), "-01": fault(api.ErrText, 2), "1e5": fault(api.ErrText, 1), "1E5": fault(api.ErrText, 1), "1.5e1": fault(api.ErrText, 3), "-": fault(api.ErrText, 1), "+1": fault(api.ErrText, 0), ".5": fault(api.ErrText, 0), "1.": fault(api.ErrText, 2), "1.x": fault(api.ErrText, 2), "- 1": fault(api.ErrText, 1), "1 2": fault(api.ErrText, 2), "1,": fault(api.ErrText, 1),
		"nul": fault(api.ErrText, 3), "nulL": fault(api.ErrText, 3), "nullx": fault(api.ErrText, 4), "tru ": fault(api.ErrText, 3), "False": fault(api.ErrText, 0), "fals]": fault(api.ErrText, 4), "n\x00": fault(api.ErrText, 1), "\x00": fault(api.ErrText, 0), "\v1": fault(api.ErrText, 0), "1\f": fault(api.ErrText, 1), "\ufeff1": fault(api.ErrText, 0),
		"[": fault(api.ErrText, 1), "[1": fault(api.ErrText, 2), "[1,": fault(api.ErrText, 3), "[1,]": fault(api.ErrText, 3), "[,1]": fault(api.ErrText, 1), "[1 2]": fault(api.ErrText, 3), "[1}": fault(api.ErrText, 2), "]": fault(api.ErrText, 0), "[]]": fault(api.ErrText, 2), "[1,,2]": fault(api.ErrText, 3),
		"{": fault(api.ErrText, 1), "{a:1}": fault(api.ErrText, 1), "{\"a\"}": fault(api.ErrText, 4), "{\"a\":}": fault(api.ErrText, 5), "{\"a\":1,}": fault(api.ErrText, 7), "{\"a\" 1}": fault(api.ErrText, 5), "{\"a\":1]": fault(api.ErrText, 6), "{1:1}": fault(api.ErrText, 1), "{\"a\":1 \"b\"": fault(api.ErrText, 7), "{,}": fault(api.ErrText, 1),
		"\"": fault(api.ErrText, 1), "\"a": fault(api.ErrText, 2), "\"a\"b": fault(api.ErrText, 3), "\"\n\"": fault(api.ErrText, 1), "\"\x7f\"": fault(api.ErrText, 1), "\"a\x80\"": fault(api.ErrText, 2), "\"é\"": fault(api.ErrText, 1), "\"\\q\"": fault(api.ErrText, 2), "\"\\": fault(api.ErrText, 2), "\"\\\"": fault(api.ErrText, 3), "\"\\x41\"": fault(api.ErrText, 2), "\"\\'\"": fault(api.ErrText, 2), "\"\\B\"": fault(api.ErrText, 2),
		"\"\\u": fault(api.ErrText, 3), "\"\\u0": fault(api.ErrText, 4), "\"\\u0141\"": fault(api.ErrText, 4), "\"\\u1041\"": fault(api.ErrText, 3), "\"\\u004\"": fault(api.ErrText, 6), "\"\\u004g\"": fault(api.ErrText, 6), "\"\\u00G0\"": fault(api.ErrText, 5), "\"\\U0041\"": fault(api.ErrText, 2), "\"\\u00 1\"": fault(api.ErrText, 5), "'a'": fault(api.ErrText, 0), "1//": fault(api.ErrText, 1),
		"1.00000": fault(api.ErrRange, 0), "100000000000.0001": fault(api.ErrRange, 0), "-100000000001": fault(api.ErrRange, 0), long: fault(api.ErrRange, 0), "0.00001": fault(api.ErrRange, 0), "[0,-0.00000]": fault(api.ErrRange, 3), "1.00000x": fault(api.ErrRange, 0), "[ 1.00000": fault(api.ErrRange, 2), "1.00000e1": fault(api.ErrRange, 0), "[1.00000,01]": fault(api.ErrRange, 1), "[01,1.00000]": fault(api.ErrText, 2), long + ".": fault(api.ErrText, 60001), long + ".x": fault(api.ErrText, 60001), "{\"a\":1.00000,\"a\":1}": fault(api.ErrRange, 5), "{\"a\":1.000000 ,": fault(api.ErrRange, 5),
		`{"a":1,"a"`: fault(api.ErrTwice, 7), `{"a":1,"a"x`: fault(api.ErrTwice, 7), `{"a":1,"a`: fault(api.ErrText, 9), `{"a":1,"\u0061":2}`: fault(api.ErrTwice, 7), `{"a":{"a":1,"b":{},"b":3}}`: fault(api.ErrTwice, 19), `[{"a":1},{"a":1}, {"":1,  "":1}]`: fault(api.ErrTwice, 26), `{"a":1,"a":1.00000}`: fault(api.ErrTwice, 7), `{"b":1,"a":1,"b":[`: fault(api.ErrTwice, 13), `{"/":1,"\/":1}`: fault(api.ErrTwice, 7),
		strings.Repeat("[", 16) + "1" + strings.Repeat("]", 16): fault(api.ErrDepth, 0), strings.Repeat("[", 17) + strings.Repeat("]", 17): fault(api.ErrDepth, 0), strings.Repeat(`{"a":`, 17) + "1" + strings.Repeat("}", 17): fault(api.ErrDepth, 0), strings.Repeat("[", 30): fault(api.ErrText, 30), strings.Repeat("[", 30) + "1.00000": fault(api.ErrRange, 30), strings.Repeat("[", 30) + `{"a":1,"a":`: fault(api.ErrTwice, 37), strings.Repeat("[", 32768) + strings.Repeat("]", 32768): fault(api.ErrDepth, 0), strings.Repeat("[", 65536): fault(api.ErrText, 65536), strings.Repeat("[", 30) + strings.Repeat("]", 31): fault(api.ErrText, 60),
		strings.Repeat(" ", api.MaxText) + "1": fault(api.ErrSize, 0), strings.Repeat("x", api.MaxText+1): fault(api.ErrSize, 0), strings.Repeat("x", api.MaxText): fault(api.ErrText, 0),
	} {
		if d, f := jsontext.Parse(s); f != want || !reflect.DeepEqual(d, api.Data{}) {
			t.Errorf("Parse(%.50q): %v, %v, want %v", s, d, f, want)
		}
	}
	for s, want := range map[string]api.Data{
		strings.Repeat("[", 15) + "1" + strings.Repeat("]", 15): nested(number(10000), 15), strings.Repeat("[", 16) + strings.Repeat("]", 16): nested(list(), 15), strings.Repeat(" ", api.MaxText-1) + "1": number(10000),
		`{"b":1,"a":{"b":2,"":3,"B":4},"A":[]}`: object(member("A", list()), member("a", object(member("", number(30000)), member("B", number(40000)), member("b", number(20000)))), member("b", number(10000))),
		`"\u00fF\/\u0000\u007e\u00Aa\u00aA"`:    text("\xff/\x00~\xaa\xaa"), "[{}, [ ], {\"a\" : [\r\n]\t} ]": list(object(), list(), object(member("a", list()))), `{"a":1,"A":1,"a ":1}`: object(member("A", number(10000)), member("a", number(10000)), member("a ", number(10000))),
	} {
		if d, f := jsontext.Parse(s); f != (api.Fault{}) || !reflect.DeepEqual(d, want) {
			t.Errorf("Parse(%.50q): %v, %v, want %v", s, d, f, want)
		}
	}
	if d, f := jsontext.Parse(strings.Repeat("9", 20)); f.Errno != api.ErrRange || d.Num != 0 {
		t.Errorf("more than %d: %v", int64(math.MaxInt64), f)
	}
}

// offset returns the first offset at which a text cannot be continued to JSON, and true; false if it is JSON.
func offset(s string) (int, bool) {
	dec := json.NewDecoder(strings.NewReader(s))
	var v any
	e := dec.Decode(&v)
	if e == nil { // behind the data only blanks may follow
		at := int(dec.InputOffset())
		rest := strings.TrimLeft(s[at:], " \t\r\n")
		return len(s) - len(rest), rest != ""
	}
	var syntax *json.SyntaxError
	if errors.As(e, &syntax) && !errors.Is(e, io.ErrUnexpectedEOF) && !strings.Contains(e.Error(), "unexpected end") {
		return int(syntax.Offset) - 1, true
	}
	return len(s), true
}

// TestOffsets compares the offsets of ErrText with those of another parser, for all short texts (P37.2).
func TestOffsets(t *testing.T) {
	pieces := []string{"[", "]", "{", "}", ",", ":", `"`, "a", `\`, "u0041", "/", "1", "0", "-", ".", " ", "true", "nul", `"a"`, `"":`}
	var all func(s string, n int)
	count := map[api.Errno]int{}
	all = func(s string, n int) {
		d, f := jsontext.Parse(s)
		at, wrong := offset(s)
		count[f.Errno]++
		if f.Errno == api.ErrText != wrong && f.Errno != api.ErrTwice || f.Errno == api.ErrText && f.At != at {
			t.Errorf("Parse(%q): %v, %v, want ErrText at %d: %v", s, d, f, at, wrong)
		}
		if n > 0 {
			for _, p := range pieces {
				all(s+p, n-1)
			}
		}
	}
	all("", 4)
	if count[api.OK] < 100 || count[api.ErrTwice] != 0 || count[api.ErrText] < 1000 || len(count) > 2 {
		t.Errorf("%v", count)
	}
}
