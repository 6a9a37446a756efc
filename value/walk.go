package value

import (
	"slices"

	"configlang/api"
	"configlang/parts"
	"configlang/scalar"
)

// counter counts the values that are entered, and their levels.
type counter struct {
	level, deepest, values int
}

// enter counts a value, and reports whether it is not nested too deeply.
func (c *counter) enter() bool {
	c.level++
	c.values++
	c.deepest = max(c.deepest, c.level)
	return c.level <= api.MaxDepth
}

// leave ends a value.
func (c *counter) leave() {
	c.level--
}

// again counts n values once more, whose levels have been counted.
func (c *counter) again(n int) {
	c.values += n
}

// walker examines values, and counts those that it meets until it finds one that is not sound.
type walker struct {
	counter
}

// sound reports whether a value is sound.
func sound(v api.Value) bool {
	var w walker
	return w.value(v)
}

// value reports whether a value is sound.
func (w *walker) value(v api.Value) bool {
	if !w.enter() {
		return false
	}
	defer w.leave()
	if v.Any {
		return parts.Same(v, Top().V)
	}
	return scalar.Valid(v.Scalars) && every(v.Lists, w.list) && every(v.Structs, w.fields)
}

// both reports whether a Val and its default are sound.
func (w *walker) both(v api.Val) bool {
	before := w.values
	if !w.value(v.V) {
		return false
	}
	// Most defaults are the values themselves: to examine them again would double the work with each level.
	if parts.Same(v.V, v.D) {
		w.again(w.values - before)
		return true
	}
	return w.value(v.D)
}

// list reports whether a list case is sound.
func (w *walker) list(c api.ListCase) bool {
	return len(c.Rest) <= 1 && every(c.Items, w.both) && every(c.Rest, w.both)
}

// fields reports whether a struct case is sound.
func (w *walker) fields(c api.StructCase) bool {
	return ordered(c.Fields) && divided(c) &&
		every(c.Fields, func(f api.Field) bool { return w.both(f.Val) }) &&
		every(c.Classes, func(k api.Class) bool { return w.both(k.Val) })
}

// ordered reports whether the labels of fields are in ascending order, and no field is optional.
func ordered(l []api.Field) bool {
	for i, f := range l {
		if i > 0 && l[i-1].Label >= f.Label || f.Presence != api.Present && f.Presence != api.Required {
			return false
		}
	}
	return true
}

// every reports whether all elements of a list pass a test.
func every[T any](l []T, test func(T) bool) bool {
	return !slices.ContainsFunc(l, func(x T) bool { return !test(x) })
}
