package turn_test

import (
	"testing"

	"quadrat/api"
	"quadrat/turn"
)

// The chapter's example, and the rows of other arrays.
func TestReverse(t *testing.T) {
	makesOne(t, "Reverse", vector(1, 2, 3), vector(3, 2, 1))
	makesOne(t, "Reverse", number(7), number(7))
	makesOne(t, "Reverse", vector(7), vector(7))
	makesOne(t, "Reverse", vector(1, 2), vector(2, 1))
	makesOne(t, "Reverse", vector(), vector())
	makesOne(t, "Reverse", vector(least, 0, greatest, -1), vector(-1, greatest, 0, least))
	makesOne(t, "Reverse", told(1, 1, 2, 3), nums([]int{2, 3}, 3, 2, 1, 6, 5, 4))
	makesOne(t, "Reverse", told(1, 1, 3, 1), told(1, 1, 3, 1))
	makesOne(t, "Reverse", told(1, 1, 1, 3), nums([]int{1, 3}, 3, 2, 1))
	makesOne(t, "Reverse", told(1, 1, 2, 2, 2), nums([]int{2, 2, 2}, 2, 1, 4, 3, 6, 5, 8, 7))
	makesOne(t, "Reverse", told(1, 1, 1, 2, 1, 3), nums([]int{1, 2, 1, 3}, 3, 2, 1, 6, 5, 4))
}

func TestReverseOfCharacters(t *testing.T) {
	makesOne(t, "Reverse", text("abc", 3), text("cba", 3))
	makesOne(t, "Reverse", text("a"), text("a"))
	makesOne(t, "Reverse", text("", 0), text("", 0))
	makesOne(t, "Reverse", text("a¯\U0010FFFF\x00", 2, 2), text("¯a\x00\U0010FFFF", 2, 2))
}

func TestReverseOfArraysWithoutElements(t *testing.T) {
	for _, shape := range [][]int{{0}, {0, 0}, {0, 3}, {3, 0}, {0, 4096}, {4096, 4096, 0}, {2, 0, 2}, {0, 1, 2, 3}} {
		makesOne(t, "Reverse", nums(shape), nums(shape))
		makesOne(t, "Reverse", chars(shape), chars(shape))
	}
}

func TestReverseAndTransposeOfAllShapes(t *testing.T) {
	for _, shape := range goodShapes() {
		for name := range ofOne() {
			one(t, name, told(1, 1, shape...))
			one(t, name, told(2, 1, shape...))
		}
	}
}

func TestReverseAndTransposeAtRandom(t *testing.T) {
	r := noise(14)
	for range 2000 {
		a := told(1+r.below(2), 1, r.shape()...)
		one(t, "Reverse", a)
		one(t, "Transpose", a)
	}
}

// An array that is not valid has no rows and no axes to turn.
func TestReverseAndTransposeOfWhatIsNotValid(t *testing.T) {
	for name, c := range ofOne() {
		for _, a := range badArrays() {
			got, e := c.f(a)
			want(t, name+" of "+short(a), e, api.ErrArray)
			is(t, name+", beside its error", got, api.Array{})
			one(t, name, a)
		}
		for _, shape := range badShapes() {
			w, e := c.way(shape)
			want(t, name+"Way", e, api.ErrArray)
			isNoWay(t, name+"Way", w)
		}
	}
}

// A gather map of reverse is one of a shape: it makes arrays of both kinds.
func TestMapsOfReverse(t *testing.T) {
	w, e := turn.ReverseWay([]int{2, 3})
	want(t, "ReverseWay", e, api.OK)
	goes(t, "ReverseWay", w, nums([]int{2, 3}, 3, 2, 1, 6, 5, 4), told(1, 1, 2, 3))
	goes(t, "ReverseWay", w, text("cbafed", 2, 3), text("abcdef", 2, 3))
}
