package mold

import (
	"slices"

	"quadrat/api"
	"quadrat/array"
)

// CatWay is catenate's. Each row of the result is a row of one array and a row of the other. A scalar has one element for all of its rows, so places begin anew behind an array's last one.
func CatWay(a, b []int) (Way, api.Errno) {
	countA, ofA := array.Count(a)
	countB, ofB := array.Count(b)
	if ofA != api.OK || ofB != api.OK {
		return Way{}, api.ErrArray
	}
	left, right := extended(a, b), extended(b, a)
	if len(left) != len(right) {
		return Way{}, api.ErrRank
	}
	last := len(left) - 1
	if !agree(left[:last], right[:last]) {
		return Way{}, api.ErrLength
	}
	first, second := left[last], right[last]
	width := first + second
	return gather(append(left[:last:last], width), func(n int) (of, place int) {
		row, column := n/width, n%width
		if column < first {
			return 0, (row*first + column) % countA
		}
		return 1, (row*second + column - first) % countB
	})
}

// extended is the shape that an array is held to have when it is put together with one of another shape. It is new memory.
func extended(shape, other []int) []int {
	rank := len(shape)
	switch {
	case rank == 0 && len(other) > 0:
		last := len(other) - 1
		return append(other[:last:last], 1)
	case rank == 0 || rank+1 == len(other):
		return append(shape[:rank:rank], 1)
	}
	return slices.Clone(shape)
}

// agree says whether as many axes have the same lengths.
func agree(one, other []int) bool {
	same := true
comparing:
	for m, n := range sideBySide(one, other) {
		if m != n {
			same = false
			break comparing
		}
	}
	return same
}

// Cat puts two together. Kinds are told behind ranks and lengths, but ahead of what is too much.
func Cat(a, b api.Array) (api.Array, api.Errno) {
	if array.Check(a) != api.OK || array.Check(b) != api.OK {
		return api.Array{}, api.ErrArray
	}
	w, e := CatWay(a.Shape, b.Shape)
	switch {
	case a.Kind != b.Kind && (e == api.OK || e == api.ErrLimit):
		return api.Array{}, api.ErrDomain
	case e != api.OK:
		return api.Array{}, e
	}
	return w.Go(a.Kind, a, b)
}
