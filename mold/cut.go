package mold

import (
	"iter"

	"quadrat/api"
)

// TakeWay is take's.
func TakeWay(l api.Array, shape []int) (Way, api.Errno) { return cutWay(l, shape, taken) }

// DropWay is drop's.
func DropWay(l api.Array, shape []int) (Way, api.Errno) { return cutWay(l, shape, dropped) }

// span is how an axis of a result lies along the array's axis: how long it is, which of the array's indices is its first (it may be below 0), and how many of them there are.
type span struct{ length, from, has int }

// taken is an axis that is given a length, at the array's beginning or at its end.
func taken(n, has int) span {
	if n < 0 {
		return span{length: -n, from: has + n, has: has}
	}
	return span{length: n, has: has}
}

// dropped is an axis that loses elements at its beginning or at its end.
func dropped(n, has int) span {
	if n < 0 {
		return span{length: max(0, has+n), has: has}
	}
	return span{length: max(0, has-n), from: n, has: has}
}

// cutWay is the gather map of arrays whose axes are cut by the numbers of a list.
func cutWay(l api.Array, shape []int, cut func(n, has int) span) (Way, api.Errno) {
	numbers, e := axisNumbers(l, shape)
	if e != api.OK {
		return Way{}, e
	}
	if len(shape) == 0 {
		shape = []int{1}
	}
	if len(numbers) != len(shape) {
		return Way{}, api.ErrLength
	}
	var spans []span
	var lengths []int
	for n, has := range sideBySide(numbers, shape) {
		s := cut(n, has)
		spans, lengths = append(spans, s), append(lengths, s.length)
	}
	return gather(lengths, func(n int) (of, place int) { return sourceIn(spans, n) })
}

// sideBySide yields what two lists of the same length have for each axis.
func sideBySide(one, other []int) iter.Seq2[int, int] {
	return func(yield func(int, int) bool) {
		for axis := range one {
			if !yield(one[axis], other[axis]) {
				return
			}
		}
	}
}

// sourceIn is where the element at a position comes from: as soon as the array has none along one axis, it is a fill element, wherever it is along the others.
func sourceIn(spans []span, n int) (of, place int) {
walking:
	for index, s := range indicesIn(spans, n) {
		if index < 0 || index >= s.has {
			of, place = noArray, 0
			break walking
		}
		place = place*s.has + index
	}
	return of, place
}

// indicesIn yields the array's indices that a position has along the axes, and the axes' spans. The position is one of a shape of these lengths.
func indicesIn(spans []span, n int) iter.Seq2[int, span] {
	return func(yield func(int, span) bool) {
		block := 1
		for _, s := range spans {
			block *= s.length
		}
		for _, s := range spans {
			block /= s.length
			if !yield(n/block%s.length+s.from, s) {
				return
			}
		}
	}
}
