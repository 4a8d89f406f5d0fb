package scalar

import (
	"iter"
	"slices"

	"quadrat/api"
	"quadrat/array"
)

// Together is the shape that comes of two.
func Together(a, b []int) ([]int, api.Errno) {
	_, ofA := array.Count(a)
	_, ofB := array.Count(b)
	switch {
	case ofA != api.OK || ofB != api.OK:
		return nil, api.ErrArray
	case len(a) == 0:
		return slices.Clone(b), api.OK
	case len(b) == 0:
		return slices.Clone(a), api.OK
	case len(a) != len(b):
		return nil, api.ErrRank
	case !slices.Equal(a, b):
		return nil, api.ErrLength
	}
	return slices.Clone(a), api.OK
}

// Kinds says whether a function takes two kinds.
func Kinds(f int, a, b int) api.Errno {
	switch {
	case !Binary(f) || !isKind(a) || !isKind(b):
		return api.ErrArg
	case f == api.FnEq || f == api.FnNe:
		return api.OK
	case a == api.KindChar || b == api.KindChar:
		return api.ErrDomain
	}
	return api.OK
}

// isKind says whether there is such a kind.
func isKind(kind int) bool { return kind == api.KindNum || kind == api.KindChar }

// Mixed is a function of two elements of such kinds. Only a function that asks whether they are equal takes different ones, and a number never equals a character, not even the one of that number.
func Mixed(f int, a, b int) (func(x, y int64) (int64, api.Errno), api.Errno) {
	if e := Kinds(f, a, b); e != api.OK {
		return nil, e
	}
	if a != b {
		return func(int64, int64) (int64, api.Errno) { return truth(f == api.FnNe) }, api.OK
	}
	return func(x, y int64) (int64, api.Errno) { return Two(f, x, y) }, api.OK
}

// MapOne is a function of each element. What stands left of them is never asked for.
func MapOne(f int, a api.Array) (api.Array, api.Errno) {
	switch {
	case !Unary(f):
		return api.Array{}, api.ErrArg
	case array.Check(a) != api.OK:
		return api.Array{}, api.ErrArray
	case a.Kind == api.KindChar:
		return api.Array{}, api.ErrDomain
	}
	return applied(monadic(f), slices.Clone(a.Shape), array.Scalar(0), a)
}

// MapTwo is a function of elements that stand together.
func MapTwo(f int, a, b api.Array) (api.Array, api.Errno) {
	switch {
	case !Binary(f):
		return api.Array{}, api.ErrArg
	case array.Check(a) != api.OK || array.Check(b) != api.OK:
		return api.Array{}, api.ErrArray
	}
	shape, e := Together(a.Shape, b.Shape)
	if e != api.OK {
		return api.Array{}, e
	}
	of, e := Mixed(f, a.Kind, b.Kind)
	if e != api.OK {
		return api.Array{}, e
	}
	return applied(func(p pair) (int64, api.Errno) { return of(p.x, p.y) }, shape, a, b)
}

// applied is the array that has the shape of what comes of two arrays together, and the results of an operation. The first element that has none tells the error of them all, so those behind it are not asked for.
func applied(of operation, shape []int, a, b api.Array) (api.Array, api.Errno) {
	var elems []int64
	fault := api.OK
applying:
	for p := range pairs(shape, a, b) {
		n, e := of(p)
		if e != api.OK {
			fault = e
			break applying
		}
		elems = append(elems, n)
	}
	if fault != api.OK {
		return api.Array{}, fault
	}
	return api.Array{Kind: api.KindNum, Shape: shape, Elems: elems}, api.OK
}

// pairs yields the elements of two arrays that stand at the same position of the shape that comes of them, by position.
func pairs(shape []int, a, b api.Array) iter.Seq[pair] {
	return func(yield func(pair) bool) {
		count, _ := array.Count(shape)
		for n := range count {
			if !yield(pair{x: elemAt(a, n), y: elemAt(b, n)}) {
				return
			}
		}
	}
}

// elemAt is an array's element at a position; a scalar's only one stands at all of them.
func elemAt(a api.Array, n int) int64 {
	if len(a.Shape) == 0 {
		return a.Elems[0]
	}
	return a.Elems[n]
}
