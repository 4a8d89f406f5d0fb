package turn_test

import (
	"testing"

	"quadrat/api"
	"quadrat/turn"
)

// An array that is not valid tells ahead of all else, whichever of the two it is.
func TestArraysThatAreNotValidStandFirst(t *testing.T) {
	for name, c := range ofTwo() {
		for _, bad := range badArrays() {
			for _, good := range goodArrays() {
				for _, l := range [][2]api.Array{{bad, good}, {good, bad}, {bad, bad}} {
					got, e := c.f(l[0], l[1])
					want(t, name+" of "+both(l[0], l[1]), e, api.ErrArray)
					is(t, name+", beside its error", got, api.Array{})
				}
				wayFails(t, name, bad, good.Shape, api.ErrArray)
			}
			for _, shape := range badShapes()[:8] {
				wayFails(t, name, bad, shape, api.ErrArray)
			}
		}
		for _, good := range goodArrays() {
			for _, shape := range badShapes() {
				wayFails(t, name, good, shape, api.ErrArray)
			}
		}
	}
}

// Of the array, a gather map knows the shape alone: elements that may not be, or that there are not, are no matter of it.
func TestMapsAreNotAskedForElements(t *testing.T) {
	for name, c := range ofTwo() {
		two(t, name, number(1), api.Array{Shape: []int{3}})
		two(t, name, number(1), chars([]int{3}, 1, 2, least))
		_, e := c.way(number(1), []int{3})
		want(t, name+"Way", e, api.OK)
	}
	for name := range ofOne() {
		one(t, name, api.Array{Shape: []int{3}})
		one(t, name, chars([]int{3}, 1, 2, least))
	}
}

// Elements that may not be tell ahead of ranks, lengths and kinds that do not go together, which are all that a gather map tells.
func TestElementsStandFirst(t *testing.T) {
	for _, c := range []struct {
		name string
		l    api.Array
		e    api.Errno
	}{
		{"Rotate", vector(1), api.ErrRank}, {"Rotate", chars(nil, 'a'), api.ErrDomain},
		{"Permute", nums([]int{1, 1}, 1), api.ErrRank}, {"Permute", chars(nil, 'a'), api.ErrDomain}, {"Permute", vector(1, 2), api.ErrLength}, {"Permute", vector(2), api.ErrDomain},
	} {
		for _, a := range []api.Array{nums([]int{3}, 1, 2), chars([]int{3}, 97, 98, 0xD800), {Shape: []int{3}, Elems: []int64{1, 2, 3}}, nums([]int{3})} {
			got, e := ofTwo()[c.name].f(c.l, a)
			want(t, c.name+" of "+both(c.l, a), e, api.ErrArray)
			is(t, c.name+", beside its error", got, api.Array{})
			wayFails(t, c.name, c.l, a.Shape, c.e)
		}
	}
	for _, a := range []api.Array{told(1, 1, 2, 3), told(2, 1, 2, 3)} {
		got, e := turn.Rotate(nums([]int{3}, 1, 2), a)
		want(t, "Rotate", e, api.ErrArray)
		is(t, "Rotate, beside its error", got, api.Array{})
	}
}

// Of amounts, the rank tells first, then the shape, then the kind.
func TestTheOrderOfRotate(t *testing.T) {
	fails(t, "Rotate", chars([]int{2, 2}, 1, 2, 3, 4), told(1, 1, 2, 2), api.ErrRank)
	fails(t, "Rotate", chars([]int{1}, 1), vector(1, 2), api.ErrRank)
	fails(t, "Rotate", chars([]int{3}, 1, 2, 3), vector(1, 2), api.ErrRank)
	fails(t, "Rotate", chars([]int{3}, 1, 2, 3), number(1), api.ErrRank)
	fails(t, "Rotate", vector(1, 2, 3), told(1, 1, 2, 2, 2), api.ErrRank)
	fails(t, "Rotate", chars([]int{3, 3}), told(1, 1, 2, 2, 2), api.ErrArray)
	fails(t, "Rotate", chars([]int{3}, 1, 2, 3), told(1, 1, 2, 2), api.ErrLength)
	fails(t, "Rotate", chars([]int{2, 1}, 1, 2), told(1, 1, 2, 2, 2), api.ErrLength)
	fails(t, "Rotate", chars([]int{1}, 1), nums([]int{0, 2}), api.ErrLength)
	fails(t, "Rotate", chars([]int{0}), told(2, 1, 2, 2), api.ErrLength)
	fails(t, "Rotate", chars([]int{2}, 1, 2), told(1, 1, 2, 2), api.ErrDomain)
	fails(t, "Rotate", chars([]int{2}, 1, least), told(1, 1, 2, 2), api.ErrArray)
	fails(t, "Rotate", chars([]int{3}, 1, 2, least), vector(1, 2), api.ErrArray)
}

// Of a list, the rank tells first, then the kind, then how many numbers it has, then which.
func TestTheOrderOfPermute(t *testing.T) {
	fails(t, "Permute", chars([]int{1, 2}, 1, 2), told(1, 1, 2, 2), api.ErrRank)
	fails(t, "Permute", chars([]int{1, 3}, 1, 2, 5), told(1, 1, 2, 2), api.ErrRank)
	fails(t, "Permute", nums([]int{1, 3}, 1, 2, 3), told(1, 1, 2, 2), api.ErrRank)
	fails(t, "Permute", nums([]int{1, 2}, 7, 7), told(1, 1, 2, 2), api.ErrRank)
	fails(t, "Permute", chars([]int{1, 2}, 1, least), told(1, 1, 2, 2), api.ErrArray)
	fails(t, "Permute", chars([]int{3}, 1, 2, 3), told(1, 1, 2, 2), api.ErrDomain)
	fails(t, "Permute", chars([]int{1}, 1), told(1, 1, 2, 2), api.ErrDomain)
	fails(t, "Permute", chars([]int{0}), told(1, 1, 2, 2), api.ErrDomain)
	fails(t, "Permute", vector(1, 1, 1), told(1, 1, 2, 2), api.ErrLength)
	fails(t, "Permute", vector(0), told(1, 1, 2, 2), api.ErrLength)
	fails(t, "Permute", vector(least, greatest, 3), told(1, 1, 2, 2), api.ErrLength)
	fails(t, "Permute", number(5), number(5), api.ErrLength)
	fails(t, "Permute", vector(7, 7), told(1, 1, 2, 2), api.ErrDomain)
}
