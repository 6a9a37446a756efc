package regex

import (
	"configlang/api"
	"configlang/byteset"
)

// matcher is an expression that keeps where in it the bytes that have been read so far can end.
type matcher struct {
	kind     int
	set      api.Bytes
	subs     []matcher
	nullable bool
	ended    bool // the bytes can end at the end of the expression
	live     bool // the bytes can end anywhere behind a byte of the expression
}

// newMatcher returns the matcher of a valid expression before the first byte.
func newMatcher(r api.Regex) *matcher {
	m := &matcher{kind: r.Kind, set: r.Set, nullable: nullable(r)}
	for _, sub := range r.Subs {
		m.subs = append(m.subs, *newMatcher(sub))
	}
	return m
}

// read reads a byte; begun tells whether the bytes before it can end at the beginning of the expression.
func (m *matcher) read(begun bool, b byte) {
	if !begun && !m.live {
		return
	}
	before := m.ended
	m.ended, m.live = false, false
	switch m.kind {
	case api.OneOf:
		m.ended = begun && byteset.Has(m.set, b)
		m.live = m.ended
	case api.Star:
		m.readSub(0, begun || before, b)
		m.ended = m.subs[0].ended
	case api.Alt:
		for i := range m.subs {
			m.readSub(i, begun, b)
			m.ended = m.ended || m.subs[i].ended
		}
	case api.Cat:
		for i := range m.subs {
			sub := &m.subs[i]
			next := sub.ended || begun && sub.nullable
			m.readSub(i, begun, b)
			m.ended = sub.ended || m.ended && sub.nullable
			begun = next
		}
	}
}

// readSub reads a byte in one of the parts.
func (m *matcher) readSub(i int, begun bool, b byte) {
	m.subs[i].read(begun, b)
	m.live = m.live || m.subs[i].live
}
