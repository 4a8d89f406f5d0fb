package turn

import (
	"iter"
	"slices"

	"quadrat/api"
	"quadrat/array"
	"quadrat/mold"
)

// axes are the lengths that make a shape.
type axes []int

// rowLength is how many elements a row has: a scalar has one row of one element.
func (s axes) rowLength() int {
	if len(s) == 0 {
		return 1
	}
	return s[len(s)-1]
}

// numbers yields what the index tuple at a position has for each axis, from the last axis back, as that is the one whose number needs no other's. The position is one of the shape.
func (s axes) numbers(position int) iter.Seq2[int, int] {
	return func(yield func(axis, number int) bool) {
		rest := position
		for axis, length := range slices.Backward(s) {
			if !yield(axis, rest%length) {
				return
			}
			rest /= length
		}
	}
}

// number is what the index tuple at a position has for one axis; 0 for an axis that a scalar has not.
func (s axes) number(position, axis int) (number int) {
looking:
	for at, n := range s.numbers(position) {
		if at == axis {
			number = n
			break looking
		}
	}
	return number
}

// gather is the gather map to an array of this shape whose elements come from the places that a rule makes of their positions. The rule is asked for the shape's positions alone, so it may divide by lengths; elsewhere there is nothing to come from anywhere.
func (s axes) gather(rule func(position int) int) (mold.Way, api.Errno) {
	count, e := array.Count(s)
	if e != api.OK {
		return mold.Way{}, e
	}
	return mold.Way{Shape: slices.Clone(s), At: func(n int) (of, place int) {
		if n < 0 || n >= count {
			return -1, 0
		}
		return 0, rule(n)
	}}, api.OK
}
