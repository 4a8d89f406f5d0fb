package mold

import (
	"slices"

	"quadrat/api"
	"quadrat/array"
)

// List are a list's numbers.
func List(a api.Array) ([]int64, api.Errno) {
	switch {
	case array.Check(a) != api.OK:
		return nil, api.ErrArray
	case len(a.Shape) > 1:
		return nil, api.ErrRank
	case a.Kind == api.KindChar:
		return nil, api.ErrDomain
	}
	return slices.Clone(a.Elems), api.OK
}

// axisNumbers are the numbers that a list has for the axes of arrays. The shape of the array that goes with the list is asked first, as one that is not valid tells ahead of what may be wrong with the list's rank and kind.
func axisNumbers(l api.Array, shape []int) ([]int, api.Errno) {
	if _, e := array.Count(shape); e != api.OK {
		return nil, e
	}
	numbers, e := List(l)
	if e != api.OK {
		return nil, e
	}
	var limited []int
	for _, n := range numbers {
		limited = append(limited, limit(n))
	}
	return limited, api.OK
}

// limit is a number, or if it is greater in size than any axis is long, one just so great. All of these tell the same, as no axis can be given such a length, and each one is shorter; but only the lesser ones have opposites, and are ints everywhere.
func limit(n int64) int {
	const beyond = api.MaxCount + 1
	return int(max(-beyond, min(n, beyond)))
}
