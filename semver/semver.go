// Package semver is layer 43: versions. See shared/doc/43-semver.md.
package semver

import (
	"cmp"
	"strconv"
	"strings"

	"configlang/api"
)

// The changes of a version.
const (
	PatchChange = 0
	MinorChange = 1
	MajorChange = 2
)

// maxNumber is the greatest number of a version.
const maxNumber = 9999

// Valid reports whether the numbers of v are in range.
func Valid(v api.Version) bool {
	for _, n := range numbers(v) {
		if n < 0 || n > maxNumber {
			return false
		}
	}
	return true
}

// Compare compares the numbers of any two versions in their order.
func Compare(a, b api.Version) int {
	x, y := numbers(a), numbers(b)
	for i := range len(x) {
		if c := cmp.Compare(x[i], y[i]); c != 0 {
			return c
		}
	}
	return 0
}

// Text returns v as text.
func Text(v api.Version) string {
	if !Valid(v) {
		return "?"
	}
	return "v" + strconv.Itoa(v.Major) + "." + strconv.Itoa(v.Minor) + "." + strconv.Itoa(v.Patch)
}

// Parse returns the version whose Text is s.
func Parse(s string) (api.Version, api.Errno) {
	// read accepts more than one form of a version: only that of Text is permitted.
	v, ok := read(s)
	if !ok || Text(v) != s {
		return api.Version{}, api.ErrSyntax
	}
	return v, api.OK
}

// Next returns the version that follows v after a change.
func Next(v api.Version, change int) (api.Version, api.Errno) {
	if !Valid(v) {
		return api.Version{}, api.ErrKind
	}
	at, ok := changed(v, change)
	if !ok {
		return api.Version{}, api.ErrName
	}
	n := numbers(v)
	n[at]++
	clear(n[at+1:])
	next := version(n)
	if !Valid(next) {
		return api.Version{}, api.ErrRange
	}
	return next, api.OK
}

// Compatible reports whether b can be used where a is required.
func Compatible(a, b api.Version) bool {
	return Valid(a) && Valid(b) && Compare(a, b) <= 0 && series(a) == series(b)
}

// numbers returns the numbers of a version in the order in which they are compared.
func numbers(v api.Version) [3]int {
	return [3]int{v.Major, v.Minor, v.Patch}
}

// version returns the version with these numbers.
func version(n [3]int) api.Version {
	return api.Version{Major: n[0], Minor: n[1], Patch: n[2]}
}

// series returns the numbers that a version has in common with all versions that are compatible with it.
func series(v api.Version) [2]int {
	if v.Major != 0 {
		return [2]int{v.Major, 0}
	}
	return [2]int{0, v.Minor}
}

// changed returns the index of the number that a change of v increases.
func changed(v api.Version, change int) (int, bool) {
	at := 0
	switch change {
	case PatchChange:
		return 2, true
	case MinorChange:
		at = 1
	case MajorChange:
		at = 0
	default:
		return 0, false
	}
	if v.Major == 0 {
		// Before version 1, each change counts as one of the next lower kind.
		at++
	}
	return at, true
}

// read returns the version with the three numbers of s.
func read(s string) (api.Version, bool) {
	parts := strings.SplitN(strings.TrimPrefix(s, "v"), ".", 3)
	var n [3]int
	if len(parts) != len(n) {
		return api.Version{}, false
	}
	for i, part := range parts {
		x, err := strconv.Atoi(part)
		if err != nil {
			return api.Version{}, false
		}
		n[i] = x
	}
	return version(n), true
}
