package turn_test

import (
	"slices"
	"testing"

	"quadrat/api"
	"quadrat/turn"
)

// The chapter's examples.
func TestRotate(t *testing.T) {
	makes(t, "Rotate", number(1), vector(1, 2, 3), vector(2, 3, 1))
	makes(t, "Rotate", number(-1), vector(1, 2, 3), vector(3, 1, 2))
	makes(t, "Rotate", number(least), vector(1, 2, 3), vector(2, 3, 1))
	makes(t, "Rotate", vector(0, 1), told(1, 1, 2, 2), nums([]int{2, 2}, 1, 2, 4, 3))
	fails(t, "Rotate", vector(1, 2, 3), told(1, 1, 2, 2), api.ErrLength)
}

// amounts are numbers about 0, about lengths of rows, about what fits into 32 bits, and about what fits into 64.
func amounts() []int64 {
	l := []int64{100, -100, 4095, 4096, 4097, -4095, -4096, -4097, 1 << 31, -1 << 31, 1<<31 - 1, 1 << 32, 1<<32 + 1, -1 << 32, 1<<62 + 1, -1 << 62, least, least + 1, least + 2, least + 3, greatest, greatest - 1, greatest - 2}
	for n := range int64(17) {
		l = append(l, n, -n)
	}
	return l
}

// One amount is for all rows.
func TestRotateOfAllRows(t *testing.T) {
	makes(t, "Rotate", number(1), told(1, 1, 2, 3), nums([]int{2, 3}, 2, 3, 1, 5, 6, 4))
	makes(t, "Rotate", number(-1), told(1, 1, 2, 2, 3), nums([]int{2, 2, 3}, 3, 1, 2, 6, 4, 5, 9, 7, 8, 12, 10, 11))
	makes(t, "Rotate", number(4), told(1, 1, 1, 2, 1, 3), nums([]int{1, 2, 1, 3}, 2, 3, 1, 5, 6, 4))
	makes(t, "Rotate", number(5), told(1, 1, 4, 1), told(1, 1, 4, 1))
	makes(t, "Rotate", number(1), text("abcd", 2, 2), text("badc", 2, 2))
	for _, n := range amounts() {
		for _, shape := range fewShapes() {
			two(t, "Rotate", number(n), told(1, 1, shape...))
			two(t, "Rotate", number(n), told(2, 97, shape...))
		}
		two(t, "Rotate", number(n), told(1, 1, 4096))
		two(t, "Rotate", number(n), told(1, 1, 64, 64))
	}
}

// By 0, by the rows' length and by its multiples, everything stays where it is.
func TestRotateByWholeRows(t *testing.T) {
	for _, shape := range fewShapes() {
		length := int64(1)
		if len(shape) > 0 {
			length = int64(shape[len(shape)-1])
		}
		for _, n := range []int64{0, length, -length, 2 * length, -7 * length, 1000 * length} {
			makes(t, "Rotate", number(n), told(1, 1, shape...), told(1, 1, shape...))
		}
		makes(t, "Rotate", number(length+1), told(1, 1, shape...), rotated(number(1), shape).array(told(1, 1, shape...)))
	}
}

// The least and the greatest amount, and rows whose length divides 64 bits' numbers, or does not.
func TestRotateByTheLeastAndTheGreatest(t *testing.T) {
	makes(t, "Rotate", number(greatest), vector(1, 2, 3), vector(2, 3, 1))
	makes(t, "Rotate", number(greatest), vector(1, 2), vector(2, 1))
	makes(t, "Rotate", number(least), vector(1, 2), vector(1, 2))
	makes(t, "Rotate", number(least), vector(7), vector(7))
	makes(t, "Rotate", number(greatest), vector(7), vector(7))
	makes(t, "Rotate", number(greatest), vector(1, 2, 3, 4, 5), vector(3, 4, 5, 1, 2))
	makes(t, "Rotate", number(least), vector(1, 2, 3, 4, 5), vector(3, 4, 5, 1, 2))
	makes(t, "Rotate", vector(least, greatest, least+1), told(1, 1, 3, 3), nums([]int{3, 3}, 2, 3, 1, 5, 6, 4, 9, 7, 8))
}

// A vector has one row, and so has a scalar: of one element, which every amount leaves where it is.
func TestRotateOfOneRow(t *testing.T) {
	for _, n := range amounts() {
		makes(t, "Rotate", number(n), number(5), number(5))
		makes(t, "Rotate", number(n), text("a"), text("a"))
		makes(t, "Rotate", number(n), vector(5), vector(5))
		makes(t, "Rotate", number(n), vector(), vector())
		makes(t, "Rotate", number(n), text("", 0), text("", 0))
		makes(t, "Rotate", nums([]int{}, n), vector(), vector())
	}
	for _, l := range []api.Array{vector(), vector(1), vector(1, 2), vector(0, 0, 0), told(1, 1, 3, 1)} {
		fails(t, "Rotate", l, vector(1, 2, 3), api.ErrRank)
		fails(t, "Rotate", l, number(1), api.ErrRank)
		fails(t, "Rotate", l, text("a"), api.ErrRank)
	}
}

// Each row has an amount of its own.
func TestRotateOfEachRow(t *testing.T) {
	makes(t, "Rotate", vector(1, -1, 5), told(1, 1, 3, 3), nums([]int{3, 3}, 2, 3, 1, 6, 4, 5, 9, 7, 8))
	makes(t, "Rotate", nums([]int{2, 2}, 1, 2, -1, 0), told(1, 0, 2, 2, 3), nums([]int{2, 2, 3}, 1, 2, 0, 5, 3, 4, 8, 6, 7, 9, 10, 11))
	makes(t, "Rotate", nums([]int{2, 1, 2}, 0, 1, -1, 2), told(1, 1, 2, 1, 2, 3), nums([]int{2, 1, 2, 3}, 1, 2, 3, 5, 6, 4, 9, 7, 8, 12, 10, 11))
	makes(t, "Rotate", vector(1), text("abc", 1, 3), text("bca", 1, 3))
	makes(t, "Rotate", vector(2, 3, 4), told(1, 1, 3, 1), told(1, 1, 3, 1))
	makes(t, "Rotate", vector(0, 1, 0, 1), text("abcdefgh", 4, 2), text("abdcefhg", 4, 2))
	makes(t, "Rotate", told(1, -2048, 4096), told(1, 1, 4096, 1), told(1, 1, 4096, 1))
}

// Rows of no elements take any amounts; where there are no rows, there are no amounts.
func TestRotateOfNothing(t *testing.T) {
	makes(t, "Rotate", vector(1, least, greatest), nums([]int{3, 0}), nums([]int{3, 0}))
	makes(t, "Rotate", told(1, 1, 4096), chars([]int{4096, 0}), chars([]int{4096, 0}))
	makes(t, "Rotate", nums([]int{2, 2}, 0, -1, least, 9), nums([]int{2, 2, 0}), nums([]int{2, 2, 0}))
	makes(t, "Rotate", vector(), nums([]int{0, 3}), nums([]int{0, 3}))
	makes(t, "Rotate", vector(), chars([]int{0, 0}), chars([]int{0, 0}))
	makes(t, "Rotate", nums([]int{2, 0}), nums([]int{2, 0, 4}), nums([]int{2, 0, 4}))
	makes(t, "Rotate", nums([]int{4096, 4096, 0}), nums([]int{4096, 4096, 0, 4096}), nums([]int{4096, 4096, 0, 4096}))
	fails(t, "Rotate", nums([]int{4096, 4096}), nums([]int{4096, 4096, 0}), api.ErrArray)
	fails(t, "Rotate", vector(0), nums([]int{0, 3}), api.ErrLength)
	fails(t, "Rotate", vector(), nums([]int{3, 0}), api.ErrLength)
}

func TestRotateAtRandom(t *testing.T) {
	r := noise(41)
	for range 4000 {
		shape := r.shape()
		two(t, "Rotate", r.amounts(shape), told(1+r.below(2), 1, shape...))
	}
}

// Amounts have one axis less than the array, or none.
func TestAmountsOfAnotherRank(t *testing.T) {
	for _, shape := range fewShapes() {
		for _, other := range fewShapes() {
			l, a := told(1, 1, other...), told(1, 1, shape...)
			two(t, "Rotate", l, a)
			if len(other) > 0 && len(other) != len(shape)-1 {
				fails(t, "Rotate", l, a, api.ErrRank)
			}
		}
	}
	fails(t, "Rotate", told(1, 1, 2, 2), told(1, 1, 2, 2), api.ErrRank)
	fails(t, "Rotate", told(1, 1, 2, 2, 1), told(1, 1, 2, 2), api.ErrRank)
	fails(t, "Rotate", vector(1, 2), told(1, 1, 2, 2, 2), api.ErrRank)
	fails(t, "Rotate", vector(1), told(1, 1, 1, 1, 1), api.ErrRank)
	fails(t, "Rotate", told(1, 1, 1, 1, 1, 1), told(1, 1, 1, 1, 1, 1), api.ErrRank)
}

// Amounts have the array's shape but for its last axis; a shape that differs in one number is another one, also if the count is the same.
func TestAmountsOfAnotherShape(t *testing.T) {
	shape := []int{2, 3, 2}
	for axis := range 3 {
		for _, n := range []int{0, 1, 2, 3, 4} {
			other := slices.Clone(shape)
			other[axis] = n
			if n != shape[axis] {
				fails(t, "Rotate", told(1, 1, other...), told(1, 1, append(slices.Clone(shape), 2)...), api.ErrLength)
			}
		}
	}
	fails(t, "Rotate", told(1, 1, 3, 2), told(1, 1, 2, 3, 2), api.ErrLength)
	fails(t, "Rotate", told(1, 1, 1, 4), told(1, 1, 2, 2, 2), api.ErrLength)
	fails(t, "Rotate", told(1, 1, 3, 2), told(1, 1, 2, 3, 2), api.ErrLength)
	fails(t, "Rotate", vector(1), told(1, 1, 3, 2), api.ErrLength)
	fails(t, "Rotate", vector(1, 2), told(1, 1, 3, 2), api.ErrLength)
	fails(t, "Rotate", vector(1, 2, 3, 4), told(1, 1, 3, 2), api.ErrLength)
	fails(t, "Rotate", vector(1, 2, 3), told(1, 1, 2, 3), api.ErrLength)
	fails(t, "Rotate", nums([]int{0, 2}), nums([]int{2, 0, 2}), api.ErrLength)
}

// Characters are no amounts, also if there are none.
func TestAmountsOfCharacters(t *testing.T) {
	fails(t, "Rotate", text("a"), vector(1, 2), api.ErrDomain)
	fails(t, "Rotate", chars(nil, 1), number(1), api.ErrDomain)
	fails(t, "Rotate", chars(nil, 0), text("abc", 3), api.ErrDomain)
	fails(t, "Rotate", text("ab", 2), told(1, 1, 2, 2), api.ErrDomain)
	fails(t, "Rotate", text("", 0), nums([]int{0, 3}), api.ErrDomain)
	fails(t, "Rotate", told(2, 1, 2, 3), told(2, 1, 2, 3, 4), api.ErrDomain)
	fails(t, "Rotate", chars(nil, 1), vector(), api.ErrDomain)
}

// A gather map of rotate is one of a shape: it makes arrays of both kinds, whatever kind the amounts were to be for.
func TestMapsOfRotate(t *testing.T) {
	w, e := turn.RotateWay(vector(1, -1), []int{2, 3})
	want(t, "RotateWay", e, api.OK)
	goes(t, "RotateWay", w, nums([]int{2, 3}, 2, 3, 1, 6, 4, 5), told(1, 1, 2, 3))
	goes(t, "RotateWay", w, text("bcafde", 2, 3), text("abcdef", 2, 3))
}
