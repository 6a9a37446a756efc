package subsume

import "configlang/api"

// Words returns the n least strings of a set.
func Words(set api.Lang, n int) []string {
	return words(set, n)
}
