package mold_test

import (
	"testing"

	"quadrat/api"
	"quadrat/mold"
)

// byList are the functions of a list and an array, by their names.
func byList() map[string]func(l, a api.Array) (api.Array, api.Errno) {
	return map[string]func(l, a api.Array) (api.Array, api.Errno){"Reshape": mold.Reshape, "Take": mold.Take, "Drop": mold.Drop}
}

// ways are the gather maps of a list and a shape, by their functions' names.
func ways() map[string]func(l api.Array, shape []int) (mold.Way, api.Errno) {
	return map[string]func(l api.Array, shape []int) (mold.Way, api.Errno){"Reshape": mold.ReshapeWay, "Take": mold.TakeWay, "Drop": mold.DropWay}
}

// bothFail fails unless a function and its gather map answer that error, and nothing beside it.
func bothFail(t *testing.T, name string, l, a api.Array, asked api.Errno) {
	t.Helper()
	got, e := byList()[name](l, a)
	want(t, name+" of "+both(l, a), e, asked)
	is(t, name+", beside its error", got, api.Array{})
	wayFails(t, name, l, a.Shape, asked)
}

// wayFails fails unless a gather map's function answers that error, and nothing beside it.
func wayFails(t *testing.T, name string, l api.Array, shape []int, asked api.Errno) {
	t.Helper()
	w, e := ways()[name](l, shape)
	want(t, name+"Way of "+short(l), e, asked)
	isNoWay(t, name+"Way of "+short(l), w)
}

// An array that is not valid tells ahead of all else, whichever of the two it is.
func TestArraysThatAreNotValidStandFirst(t *testing.T) {
	for name, f := range byList() {
		for _, bad := range badArrays() {
			for _, good := range goodArrays() {
				for _, c := range [][2]api.Array{{bad, good}, {good, bad}, {bad, bad}} {
					got, e := f(c[0], c[1])
					want(t, name+" of "+both(c[0], c[1]), e, api.ErrArray)
					is(t, name+", beside its error", got, api.Array{})
				}
				wayFails(t, name, bad, good.Shape, api.ErrArray)
			}
			for _, shape := range badShapes()[:8] {
				wayFails(t, name, bad, shape, api.ErrArray)
			}
		}
		for _, good := range goodArrays() {
			for _, shape := range badShapes() {
				wayFails(t, name, good, shape, api.ErrArray)
			}
		}
	}
}

func TestArraysThatAreNotValidStandFirstInCat(t *testing.T) {
	for _, bad := range badArrays() {
		for _, good := range goodArrays() {
			for _, c := range [][2]api.Array{{bad, good}, {good, bad}, {bad, bad}} {
				got, e := mold.Cat(c[0], c[1])
				want(t, "Cat of "+both(c[0], c[1]), e, api.ErrArray)
				is(t, "Cat, beside its error", got, api.Array{})
			}
		}
	}
	for _, bad := range badShapes() {
		for _, good := range goodShapes() {
			for _, c := range [][2][]int{{bad, good}, {good, bad}, {bad, bad}} {
				w, e := mold.CatWay(c[0], c[1])
				want(t, "CatWay", e, api.ErrArray)
				isNoWay(t, "CatWay", w)
			}
		}
	}
}

// Of the array that a list goes with, a gather map knows the shape alone.
func TestMapsAreNotAskedForElements(t *testing.T) {
	for name, f := range ways() {
		w, e := f(vector(1), []int{3})
		want(t, name, e, api.OK)
		goes(t, w, text(map[string]string{"Reshape": "a", "Take": "a", "Drop": "bc"}[name]), text("abc"))
	}
}

// Next comes a list with more than one axis; then one of characters; behind both, what a function asks of the numbers.
func TestListsThatAreNone(t *testing.T) {
	for name := range byList() {
		for _, a := range []api.Array{number(1), vector(1, 2), text(""), told(1, 1, 2, 2), told(2, 1, 1, 0, 2), told(1, 1, 2, 1, 2, 1)} {
			for _, shape := range goodShapes() {
				if len(shape) > 1 {
					bothFail(t, name, told(1, -1, shape...), a, api.ErrRank)
					bothFail(t, name, told(2, 1, shape...), a, api.ErrRank)
				}
			}
			bothFail(t, name, nums([]int{1, 2}, least, greatest), a, api.ErrRank)
			for _, l := range []api.Array{text(""), text("a"), text("ab"), chars(nil, 1), chars([]int{2}, 4097, 4097), chars([]int{2}, 1, 1), chars([]int{5}, 1, 1, 1, 1, 1), told(2, 1, 4096)} {
				bothFail(t, name, l, a, api.ErrDomain)
			}
		}
	}
}

// A negative number tells ahead of lengths that are too great or too many.
func TestReshapeTellsNegativeNumbersFirst(t *testing.T) {
	for _, l := range []api.Array{vector(4097, -1), vector(-1, 4097), vector(greatest, least), vector(1, 1, 1, 1, 1, -1), vector(64, 65, -1), vector(0, -1, 4097)} {
		bothFail(t, "Reshape", l, vector(1), api.ErrDomain)
		bothFail(t, "Reshape", l, vector(), api.ErrDomain)
	}
	bothFail(t, "Reshape", chars([]int{2}, 4097, 4097), vector(1), api.ErrDomain)
	bothFail(t, "Reshape", nums([]int{1, 2}, -1, -1), vector(1), api.ErrRank)
}

// As many numbers as axes are asked for ahead of how great they are.
func TestTakeTellsTheListsLengthFirst(t *testing.T) {
	for _, name := range []string{"Take", "Drop"} {
		for _, l := range []api.Array{vector(4097, 1), vector(greatest, least), vector(65, 64), vector(), vector(5000, 0, 0)} {
			bothFail(t, name, l, vector(1, 2), api.ErrLength)
			bothFail(t, name, l, number(1), api.ErrLength)
		}
		bothFail(t, name, number(4097), told(1, 1, 2, 2), api.ErrLength)
		bothFail(t, name, vector(4097, 4097, 4097), told(1, 1, 2, 2), api.ErrLength)
		bothFail(t, name, chars([]int{3}, 4097, 4097, 4097), told(1, 1, 2, 2), api.ErrDomain)
		bothFail(t, name, nums([]int{1, 3}, 4097, 4097, 4097), told(1, 1, 2, 2), api.ErrRank)
	}
}

// Catenate asks for ranks, then lengths, then kinds, then whether the result is valid.
func TestTheOrderOfCat(t *testing.T) {
	noCat(t, told(1, 1, 2), told(2, 1, 3, 2, 2), api.ErrRank)
	noCat(t, told(1, 1, 4096), told(2, 1, 2, 2, 2), api.ErrRank)
	noCat(t, told(1, 1, 4096), told(1, 1, 1, 2, 2), api.ErrRank)
	noCat(t, told(1, 1, 2), told(2, 1, 1, 2, 2, 2), api.ErrRank)
	noCat(t, told(1, 1, 2, 2), told(2, 1, 3, 2), api.ErrLength)
	noCat(t, told(1, 1, 2, 2048), told(2, 1, 1, 4096), api.ErrLength)
	noCat(t, told(1, 1, 2, 2048), told(1, 1, 1, 4096), api.ErrLength)
	noCat(t, told(1, 1, 2), told(2, 1, 3, 2), api.ErrLength)
	noCat(t, told(1, 1, 4096), told(2, 1, 4096), api.ErrDomain)
	noCat(t, told(1, 1, 4096), chars(nil, 'a'), api.ErrDomain)
	noCat(t, number(1), told(2, 1, 4096), api.ErrDomain)
	noCat(t, told(1, 1, 4096), told(1, 1, 4096), api.ErrLimit)
	noCat(t, told(2, 1, 4096), told(2, 1, 1), api.ErrLimit)
	noCat(t, number(1), told(1, 1, 4096, 4096, 0), api.ErrLimit)
	noCat(t, number(1), told(2, 1, 4096, 4096, 0), api.ErrDomain)
}

// Ranks tell ahead of kinds and numbers in iota as well.
func TestTheOrderOfIota(t *testing.T) {
	oneFails(t, "Iota", chars([]int{1}, 5000), api.ErrRank)
	oneFails(t, "Iota", vector(-1), api.ErrRank)
	oneFails(t, "Iota", vector(5000), api.ErrRank)
	oneFails(t, "Iota", chars(nil, 5000), api.ErrDomain)
	oneFails(t, "Iota", chars(nil, 3), api.ErrDomain)
	oneFails(t, "Iota", chars([]int{1}, -1), api.ErrArray)
}
