package langtext

import "configlang/api"

// Candidates returns the expressions that are found for a valid l in each of the ways, whatever their sizes are.
func Candidates(l api.Lang) []api.Regex {
	var all []api.Regex
	any := func(*term) bool { return true }
	for _, joins := range []bool{true, false} {
		for _, flat := range []bool{true, false} {
			t, _ := eliminate(l, newBuilder(joins), flat, any)
			all = append(all, t.regex())
		}
		if t, _ := listed(l, newBuilder(joins)); t != nil {
			all = append(all, t.regex())
		}
	}
	return all
}
