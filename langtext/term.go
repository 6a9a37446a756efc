package langtext

import (
	"cmp"
	"slices"
	"strconv"
	"strings"

	"configlang/api"
	"configlang/regex"
)

// plus is a kind of terms, beside those of expressions: one or more repetitions.
const plus = 6

// term is an expression whose parts can occur in it several times. Equal terms of one builder are one term.
type term struct {
	id       int
	kind     int
	set      api.Bytes
	subs     []*term
	nullable bool // it matches the empty string
	parts    int  // of the expression
	levels   int  // of the expression
	bytes    int  // of its text, nearly
}

// builder makes terms.
type builder struct {
	terms map[string]*term // by what they consist of
	joins bool             // what alternatives have in common is written once
}

// newBuilder returns a builder without terms.
func newBuilder(joins bool) *builder {
	return &builder{terms: map[string]*term{}, joins: joins}
}

// nothing returns the term that matches no string.
func (b *builder) nothing() *term {
	return b.term(api.Nothing, api.Bytes{})
}

// empty returns the term that matches the empty string.
func (b *builder) empty() *term {
	return b.term(api.Empty, api.Bytes{})
}

// oneOf returns the term of one byte from lo to hi.
func (b *builder) oneOf(lo, hi byte) *term {
	var set api.Bytes
	for c := int(lo); c <= int(hi); c++ {
		set[c/64] |= 1 << (c % 64)
	}
	return b.term(api.OneOf, set)
}

// cat returns the concatenation of terms.
func (b *builder) cat(l ...*term) *term {
	var factors []*term
	for _, t := range l {
		if t.kind == api.Nothing {
			return t
		}
		for _, f := range t.factors() {
			factors = b.appendFactor(factors, f)
		}
	}
	return b.group(api.Cat, api.Empty, factors)
}

// appendFactor appends a factor; repetitions are joined with what is repeated at the end of the factors.
func (b *builder) appendFactor(factors []*term, t *term) []*term {
	if t.kind != api.Star {
		return append(factors, t)
	}
	once := t.subs[0].factors()
	more := b.term(plus, api.Bytes{}, t.subs[0])
	if n := len(factors); n > 0 && (factors[n-1] == t || factors[n-1] == more) {
		return factors
	}
	if before := len(factors) - len(once); before >= 0 && slices.Equal(factors[before:], once) {
		return append(factors[:before], more)
	}
	return append(factors, t)
}

// star returns the repetitions of a term.
func (b *builder) star(t *term) *term {
	once := b.alt(b.repeated(t)...)
	if once.kind == api.Nothing {
		return b.empty()
	}
	return b.term(api.Star, api.Bytes{}, once)
}

// repeated returns alternatives whose repetitions are those of a term.
func (b *builder) repeated(t *term) []*term {
	switch t.kind {
	case api.Nothing, api.OneOf:
		return []*term{t}
	case api.Cat:
		if !t.nullable { // otherwise each factor can stand alone
			return []*term{t}
		}
	}
	var l []*term
	for _, sub := range t.subs {
		l = append(l, b.repeated(sub)...)
	}
	return l
}

// alt returns the alternatives of terms.
func (b *builder) alt(l ...*term) *term {
	var set api.Bytes
	empty, nullable := false, false
	seen := map[*term]bool{}
	var others []*term
	var add func(t *term)
	add = func(t *term) {
		switch t.kind {
		case api.Nothing:
		case api.Empty:
			empty = true
		case api.OneOf:
			for i, w := range t.set {
				set[i] |= w
			}
		case api.Alt:
			for _, sub := range t.subs {
				add(sub)
			}
		default:
			nullable = nullable || t.nullable
			if !seen[t] {
				seen[t] = true
				others = append(others, t)
			}
		}
	}
	for _, t := range l {
		add(t)
	}
	if set != (api.Bytes{}) {
		others = append(others, b.term(api.OneOf, set))
	}
	return b.choose(others, empty && !nullable)
}

// choose returns the alternatives of different terms that are not alternatives themselves, and of the empty string if it is among them.
func (b *builder) choose(l []*term, empty bool) *term {
	if more := slices.IndexFunc(l, func(t *term) bool { return t.kind == plus }); empty && more >= 0 {
		l[more] = b.term(api.Star, api.Bytes{}, l[more].subs[0])
		empty = false
	}
	l = uncovered(l)
	// The order of alternatives does not matter: in this one, equal sets of alternatives are one term.
	slices.SortFunc(l, func(s, t *term) int { return cmp.Compare(s.id, t.id) })
	if b.joins {
		for _, e := range []end{first, last} {
			if joined, ok := b.join(l, e); ok {
				if empty {
					joined = append(joined, b.empty())
				}
				return b.alt(joined...)
			}
		}
	}
	if empty {
		l = append(l, b.empty())
	}
	return b.group(api.Alt, api.Nothing, l)
}

// uncovered leaves out the terms whose repetitions are among some terms.
func uncovered(l []*term) []*term {
	stars, pluses := map[*term]bool{}, map[*term]bool{}
	for _, t := range l {
		switch t.kind {
		case api.Star:
			stars[t.subs[0]] = true
			fallthrough
		case plus:
			pluses[t.subs[0]] = true
		}
	}
	return slices.DeleteFunc(l, func(t *term) bool {
		return pluses[t] || t.kind == plus && stars[t.subs[0]]
	})
}

// end is one of the two ends of concatenations.
type end bool

const (
	first end = false
	last  end = true
)

// turn returns factors in the order in which they are seen from an end.
func (e end) turn(factors []*term) []*term {
	if e == first {
		return factors
	}
	factors = slices.Clone(factors)
	slices.Reverse(factors)
	return factors
}

// join joins all alternatives that have the same factor at an end as one of them; it reports whether there are any.
func (b *builder) join(l []*term, e end) ([]*term, bool) {
	groups := map[*term][]*term{}
	found := false
	for _, t := range l {
		f := e.turn(t.factors())[0]
		groups[f] = append(groups[f], t)
		found = found || len(groups[f]) > 1
	}
	if !found {
		return nil, false
	}
	var joined []*term
	for _, t := range l {
		f := e.turn(t.factors())[0]
		if group := groups[f]; group[0] == t {
			joined = append(joined, b.common(group, e))
		}
	}
	return joined, true
}

// common returns the alternatives of terms, where the factors that all of them have at an end are written once.
func (b *builder) common(group []*term, e end) *term {
	if len(group) == 1 {
		return group[0]
	}
	var lists [][]*term
	for _, t := range group {
		lists = append(lists, e.turn(t.factors()))
	}
	n := 0
	for !slices.ContainsFunc(lists, func(l []*term) bool { return n == len(l) || l[n] != lists[0][n] }) {
		n++
	}
	var rests []*term
	for _, l := range lists {
		rests = append(rests, b.cat(e.turn(l[n:])...))
	}
	shared, rest := b.cat(e.turn(lists[0][:n])...), b.alt(rests...)
	if e == first {
		return b.cat(shared, rest)
	}
	return b.cat(rest, shared)
}

// factors returns the terms of which a term is the concatenation.
func (t *term) factors() []*term {
	switch t.kind {
	case api.Empty:
		return nil
	case api.Cat:
		return t.subs
	}
	return []*term{t}
}

// group returns the term of a kind of at least two terms, the only term itself, or the term of another kind of none.
func (b *builder) group(kind, none int, l []*term) *term {
	switch len(l) {
	case 0:
		return b.term(none, api.Bytes{})
	case 1:
		return l[0]
	}
	return b.term(kind, api.Bytes{}, l...)
}

// term returns the term of a kind with a set and parts.
func (b *builder) term(kind int, set api.Bytes, subs ...*term) *term {
	var key strings.Builder
	key.WriteString(strconv.Itoa(kind))
	for _, w := range set {
		key.WriteString(" " + strconv.FormatUint(w, 16))
	}
	for _, sub := range subs {
		key.WriteString(" " + strconv.Itoa(sub.id))
	}
	t := b.terms[key.String()]
	if t == nil {
		t = &term{id: len(b.terms), kind: kind, set: set, subs: subs}
		t.measure()
		b.terms[key.String()] = t
	}
	return t
}

// measure finds the sizes of a term, which stop growing beyond all limits, and whether it matches the empty string.
func (t *term) measure() {
	t.parts, t.levels = 1, 1
	for _, sub := range t.subs {
		t.parts = min(t.parts+sub.parts, maxParts+1)
		t.bytes = min(t.bytes+sub.bytesIn(t.kind), maxParts)
		t.levels = max(t.levels, sub.levels+1)
	}
	switch t.kind {
	case api.Nothing, api.Empty:
		t.bytes = len("()")
		t.nullable = t.kind == api.Empty
	case api.OneOf:
		s, _ := regex.Text(api.Regex{Kind: api.OneOf, Set: t.set})
		t.bytes = len(s)
	case api.Cat:
		t.nullable = !slices.ContainsFunc(t.subs, func(sub *term) bool { return !sub.nullable })
	case api.Alt:
		t.nullable = slices.ContainsFunc(t.subs, func(sub *term) bool { return sub.nullable })
		t.bytes += len(t.subs) - 1
		if len(t.subs) == 2 && t.subs[1].kind == api.Empty {
			t.bytes = t.subs[0].bytesIn(api.Star) + len("?")
		}
	case api.Star:
		t.nullable = true
		t.bytes++
	case plus:
		t.nullable = t.subs[0].nullable
		t.parts = min(2*t.parts, maxParts+1)
		t.levels++
		t.bytes++
	}
}

// weight returns by how much a term makes longer what it is joined with.
func (t *term) weight() int {
	switch t.kind {
	case api.Nothing, api.Empty:
		return 0
	}
	return t.bytes
}

// bytesIn returns the bytes of a text within that of a term of a kind.
func (t *term) bytesIn(kind int) int {
	brackets := 0
	switch kind {
	case api.Star, plus:
		if t.kind == api.Cat {
			brackets = len("()")
		}
		fallthrough
	case api.Cat:
		if t.kind == api.Alt {
			brackets = len("()")
		}
	}
	return t.bytes + brackets
}

// writable reports whether the expression of a term may have a text.
func (t *term) writable() bool {
	return t.bytes <= maxText && t.levels <= api.MaxDepth
}

// regex returns the expression of a term.
func (t *term) regex() api.Regex {
	if t.kind == plus {
		star := api.Regex{Kind: api.Star, Subs: []api.Regex{t.subs[0].regex()}}
		return api.Regex{Kind: api.Cat, Subs: []api.Regex{t.subs[0].regex(), star}}
	}
	r := api.Regex{Kind: t.kind, Set: t.set}
	if len(t.subs) > 0 {
		r.Subs = make([]api.Regex, 0, len(t.subs)) // of an exact size: there can be very many
	}
	for _, sub := range t.subs {
		r.Subs = append(r.Subs, sub.regex())
	}
	return r
}
