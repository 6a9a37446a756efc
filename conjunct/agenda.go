package conjunct

// found is a conjunct of a place that is still to be followed.
type found struct {
	at *place
	conjunct
}

// agenda is what is found, by rank: the number of other environments in which the place has the expression. What has the least rank is taken first: which labels are active depends on the expressions alone, so that a program with too many nodes is recognized before its environments multiply.
type agenda struct {
	ranks [][]found
	least int // no lower rank has anything
}

// put adds what is found with a rank, which is at most one more than all ranks before.
func (a *agenda) put(rank int, f found) {
	if rank == len(a.ranks) {
		a.ranks = append(a.ranks, nil)
	}
	a.ranks[rank] = append(a.ranks[rank], f)
	a.least = min(a.least, rank)
}

// take removes one of those with the least rank, if there is one.
func (a *agenda) take() (found, bool) {
	for a.least < len(a.ranks) && len(a.ranks[a.least]) == 0 {
		a.least++
	}
	if a.least == len(a.ranks) {
		return found{}, false
	}
	l := a.ranks[a.least]
	f := l[len(l)-1]
	a.ranks[a.least] = l[:len(l)-1]
	return f, true
}
