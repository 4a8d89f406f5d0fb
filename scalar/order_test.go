package scalar_test

import (
	"testing"

	"quadrat/api"
)

// badArrays are arrays that are not valid.
func badArrays() []api.Array {
	l := []api.Array{
		{}, {Kind: 1}, {Kind: 2}, {Elems: []int64{7}}, {Kind: 3, Elems: []int64{7}}, {Kind: -1, Elems: []int64{7}}, {Kind: 0, Shape: []int{2}, Elems: []int64{1, 2}},
		nums(nil, 1, 2), nums([]int{2}, 1), nums([]int{1}, 1, 2), nums([]int{0}, 0), nums([]int{2, 2}, 1, 2, 3), nums([]int{2, 2}, many(5)...), nums([]int{4097}, many(4097)...), nums([]int{1, 1, 1, 1, 1}, 7), nums([]int{-1}),
		chars(nil, 0xD800), chars([]int{2}, 97, 0xDFFF), chars([]int{1}, -1), chars(nil, 0x110000), chars([]int{2, 2}, 97), chars(nil), chars(nil, least), chars([]int{1, 1, 1, 1, 1}, 97),
	}
	for _, shape := range badShapes() {
		l = append(l, nums(shape), nums(shape, 1), chars(shape, 97))
	}
	return l
}

// goodArrays are valid ones of each kind, some with elements that hardly a function takes.
func goodArrays() []api.Array {
	return []api.Array{nums(nil, 0), nums(nil, least), vector(), vector(1), vector(least, 0), nums([]int{2, 2}, many(4)...), chars(nil, 97), text(""), text("ab"), chars([]int{2, 2}, 97, 98, 99, 100)}
}

// Ahead of all else stands that there is no such function.
func TestNoFunctionStandsFirst(t *testing.T) {
	l := append(goodArrays(), badArrays()...)
	for _, f := range without(unary) {
		for _, a := range l {
			failsOne(t, f, a, api.ErrArg)
		}
	}
	for _, f := range without(binary) {
		for _, a := range l {
			fails(t, f, a, nums(nil, 1), api.ErrArg)
			fails(t, f, nums(nil, 1), a, api.ErrArg)
			fails(t, f, a, a, api.ErrArg)
			fails(t, f, a, api.Array{}, api.ErrArg)
		}
	}
}

// Next comes an array that is not valid, whatever its kind is and whatever the other array is.
func TestArraysThatAreNotValid(t *testing.T) {
	for _, bad := range badArrays() {
		for _, f := range unary {
			failsOne(t, f, bad, api.ErrArray)
		}
		for _, f := range binary {
			fails(t, f, bad, bad, api.ErrArray)
			for _, other := range goodArrays() {
				fails(t, f, bad, other, api.ErrArray)
				fails(t, f, other, bad, api.ErrArray)
			}
		}
	}
}

// Shapes that do not go together come ahead of kinds that do not, and these ahead of elements.
func TestShapesStandAheadOfKinds(t *testing.T) {
	for _, f := range binary {
		fails(t, f, text("ab"), vector(1, 2, 3), api.ErrLength)
		fails(t, f, vector(1, 2, 3), text("ab"), api.ErrLength)
		fails(t, f, text("ab"), text("abc"), api.ErrLength)
		fails(t, f, text("ab"), nums([]int{1, 2}, 1, 2), api.ErrRank)
		fails(t, f, nums([]int{1, 2}, 1, 2), text("ab"), api.ErrRank)
		fails(t, f, vector(least, 0), vector(-1, 0, 0), api.ErrLength)
		fails(t, f, vector(least, 0), nums([]int{2, 1}, -1, 0), api.ErrRank)
		fails(t, f, text(""), vector(1), api.ErrLength)
		fails(t, f, vector(1), vector(), api.ErrLength)
	}
	fails(t, api.FnAdd, text("ab"), nums([]int{2}, greatest, greatest), api.ErrDomain)
	fails(t, api.FnDiv, chars(nil, 97), vector(0, 1), api.ErrDomain)
	fails(t, api.FnDiv, vector(0, 1), text("\x00\x00"), api.ErrDomain)
	fails(t, api.FnDiv, text("ab"), nums(nil, 0), api.ErrDomain)
	fails(t, api.FnSub, vector(least), chars(nil, 1), api.ErrDomain)
	failsOne(t, api.FnSub, text("ab"), api.ErrDomain)
}
