package pick

import (
	"slices"

	"quadrat/api"
	"quadrat/array"
)

// IndexOf is where elements are.
func IndexOf(a, b api.Array) (api.Array, api.Errno) {
	switch {
	case array.Check(a) != api.OK || array.Check(b) != api.OK:
		return api.Array{}, api.ErrArray
	case len(a.Shape) != 1:
		return api.Array{}, api.ErrRank
	}
	indices := firstIndices(a, b.Kind)
	return array.Make(api.KindNum, b.Shape, func(n int) int64 {
		if index, found := indices[b.Elems[n]]; found {
			return index
		}
		return int64(len(a.Elems)) + 1
	})
}

// Member says whether elements are there.
func Member(a, b api.Array) (api.Array, api.Errno) {
	if array.Check(a) != api.OK || array.Check(b) != api.OK {
		return api.Array{}, api.ErrArray
	}
	indices := firstIndices(b, a.Kind)
	return array.Make(api.KindNum, a.Shape, func(n int) int64 {
		if _, found := indices[a.Elems[n]]; found {
			return 1
		}
		return 0
	})
}

// firstIndices are the indices, counted from 1, at which an array's elements occur first, for those who look for elements of a kind: an array of the other kind has none of them.
func firstIndices(a api.Array, kind int) map[int64]int64 {
	indices := map[int64]int64{}
	if a.Kind != kind {
		return indices
	}
	for i, x := range slices.Backward(a.Elems) {
		indices[x] = int64(i) + 1
	}
	return indices
}
