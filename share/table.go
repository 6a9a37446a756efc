package share

import (
	"configlang/api"
	"configlang/parts"
	"configlang/refine"
)

// table finds the Vals of a pool by their texts.
type table struct {
	vals    []api.Val
	indices map[string]int
}

// tableOf returns the table of a pool, and whether the pool is valid.
func tableOf(p Pool) (*table, bool) {
	t := &table{indices: map[string]int{}}
	for _, v := range p.Vals {
		if !refine.Valid(v) {
			return nil, false
		}
		// The parts of the Val must be there, and it must not.
		key, ok := text(v, t.find)
		if _, twice := t.indices[key]; !ok || twice {
			return nil, false
		}
		t.add(key, v)
	}
	return t, true
}

// pool returns the pool of a table.
func (t *table) pool() Pool {
	return Pool{Vals: parts.Each(t.vals, parts.CopyVal)}
}

// find returns the index of a valid Val; -1 and false if it is not there.
func (t *table) find(v api.Val) (int, bool) {
	if key, ok := text(v, t.find); ok {
		if i, ok := t.indices[key]; ok {
			return i, true
		}
	}
	return -1, false
}

// put returns the index of a valid Val, which is added behind its parts if it is not there. There is always one, but the result is that of find.
func (t *table) put(v api.Val) (int, bool) {
	key, _ := text(v, t.put)
	if i, ok := t.indices[key]; ok {
		return i, true
	}
	return t.add(key, v), true
}

// add adds a Val with its text, and returns its index.
func (t *table) add(key string, v api.Val) int {
	i := len(t.vals)
	t.vals = append(t.vals, v)
	t.indices[key] = i
	return i
}
