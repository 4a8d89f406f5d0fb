package array

import (
	"iter"

	"quadrat/api"
)

// Place is the position of an index tuple.
func Place(shape, at []int) (int, bool) {
	if _, e := Count(shape); e != api.OK || len(at) != len(shape) {
		return 0, false
	}
	position := 0
	for i, length := range shape {
		if at[i] < 0 || at[i] >= length {
			return 0, false
		}
		position = position*length + at[i]
	}
	return position, true
}

// At is the index tuple at a position.
func At(shape []int, n int) ([]int, bool) {
	if count, e := Count(shape); e != api.OK || n < 0 || n >= count {
		return nil, false
	}
	var at []int
search:
	for position, tuple := range tuplesTo(shape, n) {
		if position == n {
			at = tuple
			break search
		}
	}
	return at, true
}

// tuplesTo yields index tuples of a shape with their positions: the one at 0, and then one an axis, each as far along that axis as it can go without passing n, which is one of the shape's positions. So the one at n comes behind no more of them than there are axes. They are yielded in the same memory, which is left alone once the loop is left.
func tuplesTo(shape []int, n int) iter.Seq2[int, []int] {
	return func(yield func(int, []int) bool) {
		position, tuple := 0, make([]int, len(shape))
		if !yield(position, tuple) {
			return
		}
		for i := range shape {
			block := product(shape[i+1:])
			tuple[i] = (n - position) / block
			position += tuple[i] * block
			if !yield(position, tuple) {
				return
			}
		}
	}
}
