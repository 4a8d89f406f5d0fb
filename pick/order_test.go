package pick_test

import (
	"slices"
	"testing"

	"quadrat/api"
	"quadrat/pick"
)

// selections are some that go with few shapes, and some that go with none.
func selections() [][]api.Axis {
	l := [][]api.Axis{nil, {by(0)}, {list(least, greatest)}, {at(text("a"))}, {all(), at(text("", 0))}, {at(told(1, 1, 1, 1, 1, 1)), by(1), by(1)}}
	for n := range 6 {
		l = append(l, slices.Repeat([]api.Axis{all()}, n), slices.Repeat([]api.Axis{list(1)}, n))
	}
	return l
}

// notValid fails unless a call answers that an array is not valid, and nothing beside it.
func notValid(t *testing.T, c call, a api.Array) {
	t.Helper()
	got, e := c.f(a)
	want(t, c.name+" of "+short(a), e, api.ErrArray)
	is(t, c.name+", beside its error", got, api.Array{})
}

// An array that is not valid tells ahead of all else, whichever selections or list there are.
func TestArraysThatAreNotValid(t *testing.T) {
	for _, bad := range badArrays() {
		for _, l := range selections() {
			notValid(t, index(l...), bad)
		}
		for _, good := range goodArrays() {
			notValid(t, compress(good), bad)
			notValid(t, compress(bad), good)
			for name, f := range lookups() {
				for _, l := range [][2]api.Array{{bad, good}, {good, bad}, {bad, bad}} {
					got, e := f[0](l[0], l[1])
					want(t, name+" of "+both(l[0], l[1]), e, api.ErrArray)
					is(t, name+", beside its error", got, api.Array{})
				}
			}
		}
		for _, down := range []bool{false, true} {
			got, e := pick.Grade(bad, down)
			want(t, "Grade of "+short(bad), e, api.ErrArray)
			is(t, "Grade, beside its error", got, api.Array{})
		}
	}
}

// A shape that is not valid has no gather map, and tells ahead of what may be wrong with selections or a list.
func TestShapesThatAreNotValid(t *testing.T) {
	for _, shape := range badShapes() {
		for _, l := range selections() {
			wayFails(t, index(l...), shape, api.ErrArray)
		}
		wayFails(t, index(slices.Repeat([]api.Axis{all()}, len(shape))...), shape, api.ErrArray)
		wayFails(t, index(slices.Repeat([]api.Axis{by(9)}, len(shape))...), shape, api.ErrArray)
		for _, l := range append(goodArrays(), badArrays()[:12]...) {
			wayFails(t, compress(l), shape, api.ErrArray)
		}
	}
}

// Of the array, a gather map knows the shape alone: elements that may not be, or that there are not, are no matter of it.
func TestMapsAreNotAskedForElements(t *testing.T) {
	for _, a := range []api.Array{{Shape: []int{3}}, chars([]int{3}, 1, 2, least), nums([]int{3}, 1), {Kind: 7, Shape: []int{3}, Elems: []int64{1, 2, 3}}} {
		for _, c := range []call{index(all()), index(list(3, 1)), index(by(2)), compress(number(2)), compress(vector(1, 0, 2))} {
			one(t, c, a)
			w, e := c.way(a.Shape)
			maps(t, "the map of "+c.name, w, e, c.m(a.Shape))
			want(t, "the map of "+c.name, e, api.OK)
		}
	}
}

// Elements that may not be tell ahead of all that a gather map tells.
func TestElementsStandFirst(t *testing.T) {
	for _, a := range []api.Array{nums([]int{3}, 1, 2), chars([]int{3}, 97, 98, 0xD800), {Shape: []int{3}, Elems: []int64{1, 2, 3}}, nums([]int{3})} {
		for e, l := range map[api.Errno][]call{
			api.ErrRank:   {index(), index(all(), all()), compress(told(1, 1, 1, 3))},
			api.ErrDomain: {index(at(text("a"))), compress(text("a")), compress(vector(1, -1, 1))},
			api.ErrLimit:  {compress(number(greatest)), compress(vector(4000, 0, 97))},
			api.ErrIndex:  {index(by(4))},
			api.ErrLength: {compress(vector(1, 1))},
		} {
			for _, c := range l {
				notValid(t, c, a)
				wayFails(t, c, a.Shape, e)
			}
		}
	}
}

// Of selections, how many there are tells first, then their kinds, then the result's shape, then the indices.
func TestTheOrderOfIndex(t *testing.T) {
	a := told(1, 1, 2, 2)
	four := at(nums([]int{1, 1, 1, 1}, 9))
	fails(t, index(at(text("a"))), a, api.ErrRank)
	fails(t, index(at(text("a")), by(1), by(1)), a, api.ErrRank)
	fails(t, index(four, four, four), a, api.ErrRank)
	fails(t, index(by(9)), a, api.ErrRank)
	fails(t, index(at(nums([]int{1}, 1, 2))), a, api.ErrArray)
	fails(t, index(by(1), by(1), at(api.Array{})), a, api.ErrArray)
	fails(t, index(at(text("a")), at(nums([]int{-1}))), a, api.ErrArray)
	fails(t, index(at(nums([]int{-1})), at(text("a"))), a, api.ErrArray)
	fails(t, index(four, at(chars([]int{2}, 9, least))), a, api.ErrArray)
	fails(t, index(at(chars([]int{1, 1, 1, 1}, 9)), list(9)), a, api.ErrDomain)
	fails(t, index(four, at(chars([]int{1}, 9))), a, api.ErrDomain)
	fails(t, index(list(9), at(text("a"))), a, api.ErrDomain)
	fails(t, index(at(text("a")), list(9)), a, api.ErrDomain)
	fails(t, index(four, list(9)), a, api.ErrLimit)
	fails(t, index(list(9), four), a, api.ErrLimit)
	fails(t, index(list(make([]int64, 64)...), list(make([]int64, 65)...)), a, api.ErrLimit)
	fails(t, index(list(make([]int64, 64)...), list(make([]int64, 64)...)), a, api.ErrIndex)
	fails(t, index(four, by(9)), a, api.ErrIndex)
	fails(t, index(by(9), list()), a, api.ErrIndex)
	fails(t, index(list(), by(9)), a, api.ErrIndex)
}

// Of a list, the rank tells first, then the kind, then negative numbers, then how many numbers it has, then the result's shape.
func TestTheOrderOfCompress(t *testing.T) {
	a := told(1, 1, 2, 3)
	fails(t, compress(chars([]int{1, 2}, 1, 2)), a, api.ErrRank)
	fails(t, compress(nums([]int{1, 2}, -1, greatest)), a, api.ErrRank)
	fails(t, compress(nums([]int{1, 2}, 1)), a, api.ErrArray)
	fails(t, compress(chars([]int{1, 2}, 1, least)), a, api.ErrArray)
	fails(t, compress(chars([]int{3}, 1, least, 1)), a, api.ErrArray)
	fails(t, compress(chars([]int{2}, 1, 1)), a, api.ErrDomain)
	fails(t, compress(chars([]int{3}, 4000, 4000, 4000)), a, api.ErrDomain)
	fails(t, compress(vector(1, -1)), a, api.ErrDomain)
	fails(t, compress(vector(greatest, greatest, 1, -1)), a, api.ErrDomain)
	fails(t, compress(vector(greatest, greatest, -1)), a, api.ErrDomain)
	fails(t, compress(vector(-1, 4097, 1)), a, api.ErrDomain)
	fails(t, compress(number(-1)), a, api.ErrDomain)
	fails(t, compress(vector(greatest)), a, api.ErrLength)
	fails(t, compress(vector(4097, 4097)), a, api.ErrLength)
	fails(t, compress(vector(4097, 4097, 4097, 4097)), a, api.ErrLength)
	fails(t, compress(vector(4097, 0, 0)), a, api.ErrLimit)
	fails(t, compress(number(4097)), number(1), api.ErrLimit)
}

// Of index-of and grade, only the rank tells, and of index-of only that of the array that is looked in.
func TestTheOrderOfLookups(t *testing.T) {
	for _, c := range []struct {
		a, b api.Array
		e    api.Errno
	}{
		{told(1, 1, 2, 2), nums([]int{2}, 1), api.ErrArray}, {nums([]int{2, 2}, 1), vector(1), api.ErrArray}, {number(1), api.Array{}, api.ErrArray}, {chars([]int{1, 1}, least), vector(1), api.ErrArray},
		{told(1, 1, 2, 2), text("a"), api.ErrRank}, {number(1), number(1), api.ErrRank}, {text("a"), vector(), api.ErrRank}, {nums([]int{0, 2}), nums([]int{2, 0}), api.ErrRank},
		{vector(1), told(2, 1, 2, 2), api.OK},
	} {
		got, e := pick.IndexOf(c.a, c.b)
		want(t, "IndexOf of "+both(c.a, c.b), e, c.e)
		if e != api.OK {
			is(t, "IndexOf, beside its error", got, api.Array{})
		}
		looks(t, c.a, c.b)
	}
	for _, down := range []bool{false, true} {
		for _, a := range []api.Array{nums([]int{2, 2}, 1), nums([]int{-1}), {Elems: []int64{1}}, chars([]int{1, 1}, least), nums(nil), {Kind: 3, Shape: []int{1}, Elems: []int64{1}}} {
			got, e := pick.Grade(a, down)
			want(t, "Grade of "+short(a), e, api.ErrArray)
			is(t, "Grade, beside its error", got, api.Array{})
		}
	}
}
