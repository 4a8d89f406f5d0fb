package pick

import (
	"slices"

	"quadrat/api"
	"quadrat/array"
	"quadrat/mold"
)

// CompressWay is compress'. It is the gather map of index: all of each axis, but of the last one the indices that are repeated. The copies of a scalar are all its one element.
func CompressWay(l api.Array, shape []int) (mold.Way, api.Errno) {
	numbers, e := repetitions(l, shape)
	if e != api.OK {
		return mold.Way{}, e
	}
	indices, e := repeated(numbers)
	if e != api.OK {
		return mold.Way{}, e
	}
	if len(shape) == 0 {
		shape, indices = []int{1}, slices.Repeat([]int64{1}, len(indices))
	}
	selections := slices.Repeat([]api.Axis{{All: true}}, len(shape))
	selections[len(shape)-1] = api.Axis{At: array.Vector(indices...)}
	return IndexWay(shape, selections)
}

// repetitions are how often a list repeats each element of a row, or each copy of a scalar. The shape is asked first, as one that is not valid tells ahead of what may be wrong with the list's rank and kind.
func repetitions(l api.Array, shape []int) ([]int64, api.Errno) {
	if _, e := array.Count(shape); e != api.OK {
		return nil, e
	}
	numbers, e := mold.List(l)
	switch {
	case e != api.OK:
		return nil, e
	case slices.ContainsFunc(numbers, func(n int64) bool { return n < 0 }):
		return nil, api.ErrDomain
	case len(shape) == 0:
		return numbers, api.OK
	}
	length := shape[len(shape)-1]
	switch {
	case len(l.Shape) == 0:
		return slices.Repeat(numbers, length), api.OK
	case len(numbers) != length:
		return nil, api.ErrLength
	}
	return numbers, api.OK
}

// repeated are the indices from 1 on, each as often as its number says; or ErrLimit if no axis is so long. A number is held against the room that is left, as there may be none for its sum with the others.
func repeated(numbers []int64) ([]int64, api.Errno) {
	var indices []int64
	for i, n := range numbers {
		if n > int64(api.MaxCount-len(indices)) {
			return nil, api.ErrLimit
		}
		indices = append(indices, slices.Repeat([]int64{int64(i) + 1}, int(n))...)
	}
	return indices, api.OK
}
