package pick

import (
	"iter"
	"slices"

	"quadrat/api"
	"quadrat/array"
	"quadrat/mold"
)

// IndexWay is index's.
func IndexWay(shape []int, l []api.Axis) (mold.Way, api.Errno) {
	if e := checkSelections(shape, l); e != api.OK {
		return mold.Way{}, e
	}
	var lengths []int
	var chosen []choice
	for length, at := range selected(shape, l) {
		lengths = append(lengths, at.Shape...)
		chosen = append(chosen, choice{length: length, indices: slices.Clone(at.Elems)})
	}
	count, e := array.Count(lengths)
	switch {
	case e != api.OK:
		return mold.Way{}, api.ErrLimit
	case !areThere(shape, l):
		return mold.Way{}, api.ErrIndex
	}
	return mold.Way{Shape: lengths, At: func(n int) (of, place int) {
		if n < 0 || n >= count {
			return -1, 0
		}
		return 0, placeIn(chosen, n)
	}}, api.OK
}

// checkSelections says whether these may be the selections from an array of that shape, whichever indices they have.
func checkSelections(shape []int, l []api.Axis) api.Errno {
	_, e := array.Count(shape)
	switch {
	case e != api.OK || slices.ContainsFunc(l, isNoArray):
		return api.ErrArray
	case len(l) != len(shape):
		return api.ErrRank
	case slices.ContainsFunc(l, isOfCharacters):
		return api.ErrDomain
	}
	return api.OK
}

// isNoArray says whether a selection's array is not valid; all of an axis has none.
func isNoArray(x api.Axis) bool { return !x.All && array.Check(x.At) != api.OK }

// isOfCharacters says whether a selection's array has characters; all of an axis has none.
func isOfCharacters(x api.Axis) bool { return !x.All && x.At.Kind == api.KindChar }

// selected yields what is selected from each axis: the axis' length, and an array of indices along it. All of an axis is the vector of its indices, in order. There is one selection for each axis.
func selected(shape []int, l []api.Axis) iter.Seq2[int, api.Array] {
	return func(yield func(length int, at api.Array) bool) {
		for axis, length := range shape {
			at := l[axis].At
			if l[axis].All {
				at, _ = mold.Iota(array.Scalar(int64(length)))
			}
			if !yield(length, at) {
				return
			}
		}
	}
}

// areThere says whether each axis has the indices that are selected from it.
func areThere(shape []int, l []api.Axis) bool {
	there := true
looking:
	for length, at := range selected(shape, l) {
		for _, index := range at.Elems {
			if index < 1 || index > int64(length) {
				there = false
				break looking
			}
		}
	}
	return there
}

// choice is what a gather map keeps of a selection: the axis' length, and the indices along it, counted from 1, in the order of their positions.
type choice struct {
	length  int
	indices []int64
}

// placeIn is where the element at a position of the result comes from. The axes that one selection makes stand together, so what the position is within them is found without their lengths. The position is one of the result's, so each selection has indices.
func placeIn(chosen []choice, position int) (place int) {
	block := 1
	for _, c := range slices.Backward(chosen) {
		index := c.indices[position%len(c.indices)]
		place += (int(index) - 1) * block
		position /= len(c.indices)
		block *= c.length
	}
	return place
}
