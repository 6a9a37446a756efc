package textedit_test

import (
	"math"
	"slices"
	"strconv"
	"strings"
	"testing"

	"configlang/api"
	"configlang/textedit"
)

// random returns numbers that are the same in each run.
type random uint64

func (x *random) below(n int) int {
	*x = *x*6364136223846793005 + 1442695040888963407
	return int(uint64(*x)>>33) % n
}

// edit returns an edit.
func edit(from, to int, s string) api.Edit { return api.Edit{From: from, To: to, Text: s} }

// someText returns a text of a few letters with at most n bytes.
func someText(x *random, n int) string {
	b := make([]byte, x.below(n+1))
	for i := range b {
		b[i] = "abc\n\n\xff"[x.below(6)]
	}
	return string(b)
}

// someEdits returns edits that are valid for a text with n bytes.
func someEdits(x *random, n int) []api.Edit {
	var l []api.Edit
	at := 0
	for x.below(4) > 0 && at <= n {
		from := at + x.below(min(n-at, 3)+1)
		to := from + x.below(min(n-from, 3)+1)
		l = append(l, edit(from, to, someText(x, 3)))
		at = to
	}
	return l
}

// applied is the definition of Apply for valid edits: the last one first, so that the offsets of those before it still hold.
func applied(s string, l []api.Edit) string {
	for i := len(l) - 1; i >= 0; i-- {
		s = s[:l[i].From] + l[i].Text + s[l[i].To:]
	}
	return s
}

// TestExamples checks the examples of the chapter.
func TestExamples(t *testing.T) {
	l := []api.Edit{edit(1, 2, "xy")}
	if s, e := textedit.Apply("abc", l); s != "axyc" || e != api.OK {
		t.Errorf("Apply: %s, %d", s, e)
	}
	if textedit.Shift(2, l) != 3 || textedit.Shift(1, l) != 1 {
		t.Errorf("Shift: %d, %d", textedit.Shift(2, l), textedit.Shift(1, l))
	}
	if back, e := textedit.Invert("abc", l); !slices.Equal(back, []api.Edit{edit(1, 3, "b")}) || e != api.OK {
		t.Errorf("Invert: %v, %d", back, e)
	}
	if l := textedit.Diff("a\nb\nc\n", "a\nc\nd\n"); !slices.Equal(l, []api.Edit{edit(2, 4, ""), edit(6, 6, "d\n")}) {
		t.Errorf("Diff: %v", l)
	}
}

// TestCheck checks edits that are not valid, and which error comes first (P52.1).
func TestCheck(t *testing.T) {
	for _, c := range []struct {
		l []api.Edit
		e api.Errno
	}{
		{nil, api.OK}, {[]api.Edit{edit(0, 0, "")}, api.OK}, {[]api.Edit{edit(0, 3, "x"), edit(3, 3, "y"), edit(3, 3, "z")}, api.OK}, {[]api.Edit{edit(1, 1, ""), edit(1, 2, "")}, api.OK},
		{[]api.Edit{edit(-1, 0, "")}, api.ErrRange}, {[]api.Edit{edit(0, 4, "")}, api.ErrRange}, {[]api.Edit{edit(4, 4, "")}, api.ErrRange}, {[]api.Edit{edit(2, 1, "")}, api.ErrRange}, {[]api.Edit{edit(math.MinInt, math.MaxInt, "")}, api.ErrRange}, {[]api.Edit{edit(3, -1, "")}, api.ErrRange},
		{[]api.Edit{edit(0, 2, ""), edit(1, 3, "")}, api.ErrTwice}, {[]api.Edit{edit(2, 3, ""), edit(0, 1, "")}, api.ErrTwice}, {[]api.Edit{edit(1, 1, ""), edit(0, 0, "")}, api.ErrTwice}, {[]api.Edit{edit(0, 1, ""), edit(0, 1, "")}, api.ErrTwice}, {[]api.Edit{edit(0, 0, ""), edit(2, 3, ""), edit(1, 1, "")}, api.ErrTwice},
		{[]api.Edit{edit(2, 3, ""), edit(0, 1, ""), edit(3, 2, "")}, api.ErrRange}, {[]api.Edit{edit(0, 2, ""), edit(1, 4, "")}, api.ErrRange},
	} {
		if e := textedit.Check("abc", c.l); e != c.e {
			t.Errorf("Check(%v): %d, want %d", c.l, e, c.e)
		}
		if s, e := textedit.Apply("abc", c.l); e != c.e || e != api.OK && s != "" {
			t.Errorf("Apply(%v): %q, %d, want %d", c.l, s, e, c.e)
		}
		if l, e := textedit.Invert("abc", c.l); e != c.e || e != api.OK && len(l) != 0 {
			t.Errorf("Invert(%v): %v, %d, want %d", c.l, l, e, c.e)
		}
	}
	long := strings.Repeat("x", api.MaxText)
	for _, c := range []struct {
		s string
		l []api.Edit
		e api.Errno
	}{
		{long, nil, api.OK}, {long + "x", nil, api.ErrSize}, {long, []api.Edit{edit(5, 5, "y")}, api.ErrSize}, {long, []api.Edit{edit(5, 6, "y")}, api.OK}, {long + "x", []api.Edit{edit(5, 6, "")}, api.OK}, {"", []api.Edit{edit(0, 0, long), edit(0, 0, "x")}, api.ErrSize}, {long + long, []api.Edit{edit(0, 1, ""), edit(0, 1, "")}, api.ErrTwice},
	} {
		if _, e := textedit.Apply(c.s, c.l); e != c.e {
			t.Errorf("Apply to %d bytes: %d, want %d", len(c.s), e, c.e)
		}
		if _, e := textedit.Invert(c.s, c.l); e != c.e {
			t.Errorf("Invert of %d bytes: %d, want %d", len(c.s), e, c.e)
		}
	}
}

// TestApply compares Apply, Shift and Invert with their definitions (P52.1, P52.2, P52.4).
func TestApply(t *testing.T) {
	x := random(52)
	for range 10000 {
		s := someText(&x, 12)
		l := someEdits(&x, len(s))
		got, e := textedit.Apply(s, l)
		if e != api.OK || got != applied(s, l) {
			t.Fatalf("Apply(%q, %v): %q, %d", s, l, got, e)
		}
		back, e := textedit.Invert(s, l)
		if e != api.OK || len(back) != len(l) {
			t.Fatalf("Invert(%q, %v): %v, %d", s, l, back, e)
		}
		for i, x := range back {
			if x.Text != s[l[i].From:l[i].To] || got[x.From:x.To] != l[i].Text {
				t.Fatalf("Invert(%q, %v): %v", s, l, back)
			}
		}
		if old, e := textedit.Apply(got, back); e != api.OK || old != s {
			t.Fatalf("Apply(%q, %v): %q, %d, want %q", got, back, old, e, s)
		}
		for at := range len(s) {
			n := textedit.Shift(at, l)
			i := slices.IndexFunc(l, func(x api.Edit) bool { return x.From <= at && at < x.To })
			switch {
			case i >= 0 && n != back[i].From:
				t.Fatalf("Shift(%d, %v): %d, want %d", at, l, n, back[i].From)
			case i < 0 && n != len(applied(s[:at], slices.DeleteFunc(slices.Clone(l), func(x api.Edit) bool { return x.To > at }))):
				t.Fatalf("Shift(%d, %v): %d", at, l, n)
			case i < 0 && got[n] != s[at]:
				t.Fatalf("Shift(%d, %v) of %q: %d, another byte", at, l, s, n)
			}
		}
		if textedit.Shift(len(s), l) != len(got) {
			t.Fatalf("Shift of the end: %d, want %d", textedit.Shift(len(s), l), len(got))
		}
	}
}

// TestShift checks offsets and edits that are out of range, and insertions (P52.2).
func TestShift(t *testing.T) {
	for _, c := range []struct {
		at   int
		l    []api.Edit
		want int
	}{
		{5, nil, 5}, {-1, []api.Edit{edit(0, 0, "x")}, -1}, {math.MinInt, []api.Edit{edit(0, 0, "x")}, math.MinInt}, {math.MaxInt32, []api.Edit{edit(0, 0, "x")}, math.MaxInt32 + 1}, {math.MaxInt32 + 1, []api.Edit{edit(0, 0, "x")}, math.MaxInt32 + 1}, {math.MaxInt, []api.Edit{edit(0, 0, "x")}, math.MaxInt},
		{3, []api.Edit{edit(3, 3, "xy")}, 5}, {2, []api.Edit{edit(3, 3, "xy")}, 2}, {3, []api.Edit{edit(3, 3, "xy"), edit(3, 3, "z")}, 6}, {3, []api.Edit{edit(3, 3, "xy"), edit(3, 4, "z")}, 5}, {3, []api.Edit{edit(1, 3, "xyz"), edit(3, 3, "z")}, 5}, {0, []api.Edit{edit(0, 4, "")}, 0}, {3, []api.Edit{edit(0, 4, "")}, 0}, {4, []api.Edit{edit(0, 4, "")}, 0}, {7, []api.Edit{edit(0, 2, ""), edit(2, 2, "abc"), edit(6, 9, "q")}, 7},
		{5, []api.Edit{edit(0, 2, ""), edit(1, 3, "")}, 5}, {5, []api.Edit{edit(0, 1, ""), edit(-1, 3, "")}, 5}, {5, []api.Edit{edit(0, 1, ""), edit(3, 2, "")}, 5}, {5, []api.Edit{edit(0, 1, ""), edit(9, 8, "")}, 5}, {5, []api.Edit{edit(0, 1, ""), edit(8, 9, ""), edit(7, 7, "")}, 5}, {5, []api.Edit{edit(0, 1, ""), edit(100, math.MaxInt, "")}, 4}, {500, []api.Edit{edit(0, 1, ""), edit(100, math.MaxInt, "x")}, 99}, {5, []api.Edit{edit(math.MinInt, 3, "")}, 5},
	} {
		if n := textedit.Shift(c.at, c.l); n != c.want {
			t.Errorf("Shift(%d, %v): %d, want %d", c.at, c.l, n, c.want)
		}
	}
}

// TestLines checks the lines of texts (P52.3).
func TestLines(t *testing.T) {
	for s, want := range map[string][]string{
		"": nil, "\n": {"\n"}, "a": {"a"}, "a\n": {"a\n"}, "a\nb": {"a\n", "b"}, "\n\na\r\n": {"\n", "\n", "a\r\n"}, "\xff\n\xc3\n\xe2\x82\n": {"\xff\n", "\xc3\n", "\xe2\x82\n"}, "é\u2028\x85\v\n ": {"é\u2028\x85\v\n", " "},
	} {
		if l := textedit.Lines(s); !slices.Equal(l, want) {
			t.Errorf("Lines(%q): %q, want %q", s, l, want)
		}
	}
	x := random(53)
	for range 1000 {
		s := someText(&x, 20)
		l := textedit.Lines(s)
		if strings.Join(l, "") != s {
			t.Fatalf("Lines(%q): %q", s, l)
		}
		for i, line := range l {
			if n := strings.Count(line, "\n"); line == "" || n > 1 || n == 1 && !strings.HasSuffix(line, "\n") || n == 0 && i+1 < len(l) {
				t.Fatalf("Lines(%q): %q", s, l)
			}
		}
	}
}

// common returns the length of a longest common subsequence: the definition.
func common(a, b []string) int {
	table := make([][]int, len(a)+1)
	table[0] = make([]int, len(b)+1)
	for i := range a {
		table[i+1] = make([]int, len(b)+1)
		for j := range b {
			table[i+1][j+1] = max(table[i][j+1], table[i+1][j])
			if a[i] == b[j] {
				table[i+1][j+1] = table[i][j] + 1
			}
		}
	}
	return table[len(a)][len(b)]
}

// starts returns the offsets at which lines of s begin, and its end.
func starts(s string) []int {
	l := []int{0}
	for i := range len(s) {
		if s[i] == '\n' {
			l = append(l, i+1)
		}
	}
	return append(l, len(s))
}

// difference checks the edits from a to b, apart from their number of lines, which it returns.
func difference(t *testing.T, a, b string) int {
	t.Helper()
	l := textedit.Diff(a, b)
	if e := textedit.Check(a, l); e != api.OK || applied(a, l) != b {
		t.Fatalf("Diff(%q, %q): %v, %d", a, b, l, e)
	}
	if got, e := textedit.Apply(a, l); len(b) <= api.MaxText && (e != api.OK || got != b) {
		t.Fatalf("Apply of Diff(%q, %q): %q, %d", a, b, got, e)
	}
	back, _ := textedit.Invert(a, l)
	beginsA, beginsB := starts(a), starts(b)
	lines := 0
	for i, x := range l {
		replaced := a[x.From:x.To]
		_, from := slices.BinarySearch(beginsA, x.From)
		_, to := slices.BinarySearch(beginsA, x.To)
		if !from || !to || replaced == x.Text || i > 0 && x.From <= l[i-1].To {
			t.Fatalf("Diff(%q, %q): %v", a, b, l)
		}
		if len(back) > 0 {
			_, from = slices.BinarySearch(beginsB, back[i].From)
			_, to = slices.BinarySearch(beginsB, back[i].To)
			if !from || !to {
				t.Fatalf("Diff(%q, %q): %v, not whole lines", a, b, l)
			}
		}
		lines += len(textedit.Lines(replaced))
	}
	return lines
}

// TestDiff compares the number of lines that Diff replaces with that of a longest common subsequence (P52.3, P52.4).
func TestDiff(t *testing.T) {
	x := random(54)
	some := func(n, letters int) string {
		var b strings.Builder
		for range x.below(n + 1) {
			b.WriteByte("abcdefgh"[x.below(letters)])
			b.WriteByte('\n')
		}
		return strings.TrimSuffix(b.String(), []string{"\n", "x"}[x.below(2)])
	}
	for i := range 5000 {
		n := []int{3, 8, 40, 150}[i%4]
		letters := 1 + x.below(8)
		a, b := some(n, letters), some(n, letters)
		if i%3 == 0 { // a text that is changed in a few lines
			l := textedit.Lines(a)
			for range x.below(4) {
				at := x.below(len(l) + 1)
				l = slices.Insert(l, at, "new\n")
				l = slices.Delete(l, at, min(at+x.below(3), len(l)))
			}
			b = strings.Join(l, "")
		}
		la, lb := textedit.Lines(a), textedit.Lines(b)
		if lines, want := difference(t, a, b), len(la)-common(la, lb); lines != want {
			t.Fatalf("Diff(%q, %q) replaces %d lines, want %d", a, b, lines, want)
		}
		if l := textedit.Diff(a, a); len(l) != 0 {
			t.Fatalf("Diff(%q, %q): %v", a, a, l)
		}
	}
	for _, c := range [][2]string{{"", ""}, {"", "a"}, {"a", ""}, {"a", "a\n"}, {"a\n", "a"}, {"a\nb", "a\nb\n"}, {"\n", "\n\n"}, {"a\na", "a\na\n"}, {"x", "y"}, {"a\nb\n", "b\na\n"}} {
		la, lb := textedit.Lines(c[0]), textedit.Lines(c[1])
		if lines, want := difference(t, c[0], c[1]), len(la)-common(la, lb); lines != want {
			t.Errorf("Diff(%q, %q) replaces %d lines, want %d", c[0], c[1], lines, want)
		}
	}
}

// TestDiffLarge checks that long texts are not too slow, and more than 64 lines with a known subsequence (P52.3).
func TestDiffLarge(t *testing.T) {
	x := random(55)
	var forth, back, first, second, both strings.Builder
	for i := range 13000 {
		forth.WriteString(strconv.Itoa(i) + "\n")
		back.WriteString(strconv.Itoa(12999-i) + "\n")
	}
	for range api.MaxText / 2 {
		first.WriteString([]string{"a\n", "b\n"}[x.below(2)])
		second.WriteString([]string{"a\n", "b\n"}[x.below(2)])
	}
	for i := range 30000 {
		both.WriteString([]string{"x\n", "y" + strconv.Itoa(i) + "\n"}[i%2])
	}
	if lines := difference(t, forth.String(), back.String()); lines != 12999 {
		t.Errorf("reversed: %d lines", lines)
	}
	difference(t, first.String(), second.String())
	if lines := difference(t, both.String(), strings.Repeat("x\n", 15000)); lines != 15000 {
		t.Errorf("every second line: %d lines", lines)
	}
	difference(t, strings.Repeat("\n", api.MaxText), strings.Repeat("\n", api.MaxText/3))
}
