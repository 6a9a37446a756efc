package textedit

import (
	"math/bits"
	"slices"
	"strings"

	"configlang/api"
)

// wordBits is the number of lines that one element of a row stands for.
const wordBits = 64

// comparison finds a longest common subsequence of two lists of lines, which are represented by numbers.
type comparison struct {
	a, b         []int
	keptA, keptB []bool // whether a line belongs to the subsequence
}

// Diff returns edits that change a to b and replace as few lines of a as possible.
func Diff(a, b string) []api.Edit {
	linesA, linesB := Lines(a), Lines(b)
	c := compare(linesA, linesB)
	var edits []api.Edit
	i, j, at := 0, 0, 0
	for i < len(linesA) || j < len(linesB) {
		from := at
		var text strings.Builder
	group:
		for {
			switch {
			case i < len(linesA) && !c.keptA[i]:
				at += len(linesA[i])
				i++
			case j < len(linesB) && !c.keptB[j]:
				text.WriteString(linesB[j])
				j++
			default:
				break group
			}
		}
		if at > from || text.Len() > 0 {
			edits = append(edits, api.Edit{From: from, To: at, Text: text.String()})
		}
		// What follows is the same line in both, unless both end here.
		if i < len(linesA) {
			at += len(linesA[i])
			i++
			j++
		}
	}
	return edits
}

// compare compares two lists of lines.
func compare(linesA, linesB []string) *comparison {
	numbers := map[string]int{}
	numbered := func(lines []string) []int {
		var l []int
		for _, s := range lines {
			n, ok := numbers[s]
			if !ok {
				n = len(numbers)
				numbers[s] = n
			}
			l = append(l, n)
		}
		return l
	}
	c := &comparison{a: numbered(linesA), b: numbered(linesB)}
	c.keptA, c.keptB = make([]bool, len(c.a)), make([]bool, len(c.b))
	c.match(0, len(c.a), 0, len(c.b))
	return c
}

// keep makes two equal lines belong to the subsequence.
func (c *comparison) keep(i, j int) {
	c.keptA[i], c.keptB[j] = true, true
}

// match finds a longest common subsequence of the lines of a from a0 up to a1 and those of b from b0 up to b1.
func (c *comparison) match(a0, a1, b0, b1 int) {
	for a0 < a1 && b0 < b1 && c.a[a0] == c.b[b0] {
		c.keep(a0, b0)
		a0++
		b0++
	}
	for a0 < a1 && b0 < b1 && c.a[a1-1] == c.b[b1-1] {
		a1--
		b1--
		c.keep(a1, b1)
	}
	if a0 == a1 || b0 == b1 {
		return
	}
	if b0+1 == b1 {
		if i := slices.Index(c.a[a0:a1], c.b[b0]); i >= 0 {
			c.keep(a0+i, b0)
		}
		return
	}
	// Dividing both texts in two keeps the memory small that a table of all pairs of lines would need.
	middle := (b0 + b1) / 2
	cut := a0 + divide(c.a[a0:a1], c.b[b0:middle], c.b[middle:b1])
	c.match(a0, cut, b0, middle)
	c.match(cut, a1, middle, b1)
}

// divide returns where to cut a so that the subsequences that its parts have in common with front and back are together as long as possible.
func divide(a, front, back []int) int {
	before := lengths(a, front)
	behind := lengths(reversed(a), reversed(back))
	best := 0
	for i := range before {
		if before[i]+behind[len(a)-i] > before[best]+behind[len(a)-best] {
			best = i
		}
	}
	return best
}

// places is lines of a list: line i is bit i%64 of the places with the word i/64.
type places struct {
	word int
	bits uint64
}

// lengths returns for each n the length of a longest common subsequence of the first n lines of a and of b.
func lengths(a, b []int) []int {
	occurrences := map[int][]places{}
	for i, x := range a {
		occurrences[x] = addPlace(occurrences[x], i)
	}
	// Bit i is 0 if the length becomes greater by line i of a. A row of a table of all lengths follows from the row before it by an addition of such numbers.
	row := make([]uint64, len(a)/wordBits+1)
	for w := range row {
		row[w] = ^uint64(0)
	}
	equal := make([]uint64, len(row))
	for _, x := range b {
		for _, p := range occurrences[x] {
			equal[p.word] = p.bits
		}
		advance(row, equal)
		for _, p := range occurrences[x] {
			equal[p.word] = 0
		}
	}
	l := make([]int, len(a)+1)
	for i := range a {
		grows := ^row[i/wordBits] >> (i % wordBits) & 1
		l[i+1] = l[i] + int(grows)
	}
	return l
}

// addPlace adds line i, which is behind all lines of l.
func addPlace(l []places, i int) []places {
	if len(l) == 0 || l[len(l)-1].word != i/wordBits {
		l = append(l, places{word: i / wordBits})
	}
	l[len(l)-1].bits |= 1 << (i % wordBits)
	return l
}

// advance changes a row to the next one; equal are the lines of a that are equal to the next line of b.
func advance(row, equal []uint64) {
	carry := uint64(0)
	for w, r := range row {
		var sum uint64
		sum, carry = bits.Add64(r, r&equal[w], carry)
		row[w] = sum | r&^equal[w]
	}
}

// reversed returns a list in the reverse order.
func reversed(l []int) []int {
	l = slices.Clone(l)
	slices.Reverse(l)
	return l
}
