package mold_test

import (
	"testing"

	"quadrat/api"
	"quadrat/mold"
)

// catsTo fails unless Cat answers that array.
func catsTo(t *testing.T, a, b, asked api.Array) {
	t.Helper()
	got, e := mold.Cat(a, b)
	want(t, "Cat of "+both(a, b), e, api.OK)
	is(t, "Cat of "+both(a, b), got, asked)
	cats(t, a, b)
}

// noCat fails unless Cat answers that error, and nothing beside it.
func noCat(t *testing.T, a, b api.Array, asked api.Errno) {
	t.Helper()
	got, e := mold.Cat(a, b)
	want(t, "Cat of "+both(a, b), e, asked)
	is(t, "Cat, beside its error", got, api.Array{})
	cats(t, a, b)
}

func TestExamplesOfCat(t *testing.T) {
	catsTo(t, vector(1, 2), number(3), vector(1, 2, 3))
	catsTo(t, vector(1, 2), vector(3), vector(1, 2, 3))
	catsTo(t, nums([]int{2, 2}, 1, 2, 3, 4), vector(5, 6), nums([]int{2, 3}, 1, 2, 5, 3, 4, 6))
	noCat(t, number(1), chars(nil, 'a'), api.ErrDomain)
	noCat(t, number(1), text("a"), api.ErrDomain)
}

func TestCatOfScalars(t *testing.T) {
	catsTo(t, number(1), number(2), vector(1, 2))
	catsTo(t, chars(nil, 'a'), chars(nil, 'b'), text("ab"))
	catsTo(t, number(1), vector(2, 3), vector(1, 2, 3))
	catsTo(t, vector(2, 3), number(1), vector(2, 3, 1))
	catsTo(t, number(1), vector(), vector(1))
	catsTo(t, vector(), number(1), vector(1))
	m := nums([]int{2, 3}, 1, 2, 3, 4, 5, 6)
	catsTo(t, m, number(0), nums([]int{2, 4}, 1, 2, 3, 0, 4, 5, 6, 0))
	catsTo(t, number(9), m, nums([]int{2, 4}, 9, 1, 2, 3, 9, 4, 5, 6))
	c := told(1, 1, 2, 1, 2)
	catsTo(t, c, number(9), nums([]int{2, 1, 3}, 1, 2, 9, 3, 4, 9))
	catsTo(t, number(9), c, nums([]int{2, 1, 3}, 9, 1, 2, 9, 3, 4))
	d := told(2, 97, 2, 1, 2, 1)
	catsTo(t, d, chars(nil, '-'), chars([]int{2, 1, 2, 2}, 'a', '-', 'b', '-', 'c', '-', 'd', '-'))
	catsTo(t, chars(nil, '-'), d, chars([]int{2, 1, 2, 2}, '-', 'a', '-', 'b', '-', 'c', '-', 'd'))
	catsTo(t, number(9), nums([]int{2, 0}), nums([]int{2, 1}, 9, 9))
	catsTo(t, nums([]int{0, 2}), number(9), nums([]int{0, 3}))
	catsTo(t, nums([]int{2, 0, 2}), number(9), nums([]int{2, 0, 3}))
	catsTo(t, number(9), nums([]int{1, 2, 2, 0}), nums([]int{1, 2, 2, 1}, 9, 9, 9, 9))
}

func TestCatOfTheSameRank(t *testing.T) {
	catsTo(t, text("ab"), text("cde"), text("abcde"))
	catsTo(t, text("ab"), text(""), text("ab"))
	catsTo(t, text(""), text("ab"), text("ab"))
	catsTo(t, vector(), vector(), vector())
	catsTo(t, nums([]int{2, 1}, 1, 2), nums([]int{2, 2}, 3, 4, 5, 6), nums([]int{2, 3}, 1, 3, 4, 2, 5, 6))
	catsTo(t, nums([]int{2, 2}, 3, 4, 5, 6), nums([]int{2, 0}), nums([]int{2, 2}, 3, 4, 5, 6))
	catsTo(t, nums([]int{2, 0}), nums([]int{2, 0}), nums([]int{2, 0}))
	catsTo(t, nums([]int{0, 2}), nums([]int{0, 3}), nums([]int{0, 5}))
	catsTo(t, told(1, 1, 2, 2, 1), told(1, 5, 2, 2, 2), nums([]int{2, 2, 3}, 1, 5, 6, 2, 7, 8, 3, 9, 10, 4, 11, 12))
	catsTo(t, told(1, 1, 1, 2, 1, 2), told(1, 5, 1, 2, 1, 1), nums([]int{1, 2, 1, 3}, 1, 2, 5, 3, 4, 6))
}

func TestCatOfOneAxisLess(t *testing.T) {
	m := nums([]int{2, 2}, 1, 2, 3, 4)
	catsTo(t, vector(8, 9), m, nums([]int{2, 3}, 8, 1, 2, 9, 3, 4))
	catsTo(t, m, vector(8, 9), nums([]int{2, 3}, 1, 2, 8, 3, 4, 9))
	catsTo(t, vector(8, 9), nums([]int{2, 0}), nums([]int{2, 1}, 8, 9))
	catsTo(t, nums([]int{0, 3}), vector(), nums([]int{0, 4}))
	catsTo(t, told(1, 1, 2, 1), told(1, 5, 2, 1, 2), nums([]int{2, 1, 3}, 1, 5, 6, 2, 7, 8))
	catsTo(t, told(1, 5, 2, 1, 2), told(1, 1, 2, 1), nums([]int{2, 1, 3}, 5, 6, 1, 7, 8, 2))
	catsTo(t, told(1, 5, 1, 2, 1, 1), told(1, 1, 1, 2, 1), nums([]int{1, 2, 1, 2}, 5, 1, 6, 2))
	catsTo(t, told(1, 1, 1, 2, 1), told(1, 5, 1, 2, 1, 1), nums([]int{1, 2, 1, 2}, 1, 5, 2, 6))
	noCat(t, m, vector(8, 9, 10), api.ErrLength)
	noCat(t, m, vector(8), api.ErrLength)
	noCat(t, vector(), m, api.ErrLength)
	noCat(t, told(1, 1, 2, 3), told(1, 1, 3, 2, 2), api.ErrLength)
	noCat(t, told(1, 1, 2, 3), told(1, 1, 2, 2, 3), api.ErrLength)
}

func TestCatOfRanksThatDoNotGoTogether(t *testing.T) {
	for _, a := range goodShapes() {
		for _, b := range goodShapes() {
			if len(a) > 0 && len(a)+2 <= len(b) {
				noCat(t, told(1, 1, a...), told(1, 1, b...), api.ErrRank)
				noCat(t, told(1, 1, b...), told(1, 1, a...), api.ErrRank)
				noCat(t, told(2, 1, b...), told(1, 1, a...), api.ErrRank)
			}
		}
	}
}

func TestCatOfAxesThatDiffer(t *testing.T) {
	for _, c := range [][2][]int{
		{{2, 3}, {3, 3}}, {{2, 3}, {3, 2}}, {{0, 3}, {1, 3}}, {{2, 0}, {0, 2}}, {{2, 2, 2}, {2, 3, 2}}, {{2, 2, 2}, {3, 2, 2}}, {{2, 2, 2}, {3, 3, 2}}, {{0, 2, 2}, {0, 3, 2}},
		{{2, 2, 2, 2}, {2, 2, 3, 2}}, {{2, 2, 2, 2}, {2, 3, 2, 2}}, {{2, 2, 2, 2}, {3, 2, 2, 2}}, {{1, 2, 2, 1}, {2, 2, 2, 1}}, {{4096, 4096, 0}, {4096, 4095, 0}}, {{1, 4096}, {4096, 1}},
	} {
		for kind := 1; kind <= 2; kind++ {
			noCat(t, told(1, 1, c[0]...), told(kind, 1, c[1]...), api.ErrLength)
			noCat(t, told(kind, 1, c[1]...), told(1, 1, c[0]...), api.ErrLength)
		}
	}
}

func TestCatOfKindsThatDiffer(t *testing.T) {
	for _, a := range goodShapes() {
		for _, b := range goodShapes() {
			if e := joined(a, b).e; e == api.OK || e == api.ErrLimit {
				noCat(t, told(1, 1, a...), told(2, 1, b...), api.ErrDomain)
				noCat(t, told(2, 1, a...), told(1, 1, b...), api.ErrDomain)
			}
		}
	}
}

func TestCatBetweenAllShapes(t *testing.T) {
	for _, a := range goodShapes() {
		for _, b := range goodShapes() {
			for kind := 1; kind <= 2; kind++ {
				cats(t, told(kind, 1, a...), told(kind, 5000, b...))
			}
		}
	}
}

func TestCatAtRandom(t *testing.T) {
	r := noise(31)
	for range 4000 {
		a := r.shape()
		b := append([]int{}, a...)
		switch {
		case r.below(8) == 0:
			b = r.shape()
		case len(b) > 0 && r.below(3) == 0:
			b = b[:len(b)-1]
		case len(b) > 0:
			b[len(b)-1] = r.below(5)
		}
		cats(t, told(1, 1, a...), told(1, 5000, b...))
		cats(t, told(2, 5000, b...), told(2, 1, a...))
	}
}

func TestCatsThatAreJustValidAndJustNot(t *testing.T) {
	for _, c := range [][2][]int{
		{{4095}, {1}}, {{4095}, nil}, {nil, {4095}}, {{4096}, {0}}, {{0}, {4096}}, {{2048}, {2048}}, {{64, 63}, {64}}, {{64}, {64, 63}}, {{64, 63}, {64, 1}}, {{64, 63}, nil}, {nil, {64, 63}}, {{2, 2047}, nil},
		{{4096, 0}, nil}, {{4096, 0}, {4096}}, {{64, 64, 0}, nil}, {{64, 64, 0}, {64, 64}}, {{0, 4096, 4095}, nil}, {{0, 4095}, {0, 1}}, {{8, 8, 8, 7}, nil}, {{8, 8, 8, 7}, {8, 8, 8}}, {{8, 8, 8, 4}, {8, 8, 8, 4}}, {{0, 2048}, {0, 2048}}, {{64, 65, 0}, {64, 65, 0, 0}},
	} {
		catsTo(t, told(1, 1, c[0]...), told(1, 5000, c[1]...), joined(c[0], c[1]).array(1, told(1, 1, c[0]...), told(1, 5000, c[1]...)))
	}
	for _, c := range [][2][]int{
		{{4096}, {1}}, {{4096}, nil}, {nil, {4096}}, {{1}, {4096}}, {{4096}, {4096}}, {{2049}, {2048}}, {{64, 64}, {64}}, {{64}, {64, 64}}, {{64, 64}, {64, 1}}, {{64, 64}, nil}, {nil, {64, 64}}, {{2, 2048}, nil},
		{{4096, 4096, 0}, nil}, {nil, {4096, 4096, 0}}, {{64, 65, 0}, nil}, {{0, 4096}, nil}, {nil, {0, 4096}}, {{0, 4096}, {0, 1}}, {{0, 4096}, {0}}, {{0, 4096}, {0, 4096}}, {{8, 8, 8, 8}, nil}, {{8, 8, 8, 8}, {8, 8, 8}}, {{4096, 4096, 4096, 0}, nil}, {{1, 1, 4096}, {1, 1}},
	} {
		noCat(t, told(1, 1, c[0]...), told(1, 1, c[1]...), api.ErrLimit)
		noCat(t, told(2, 1, c[0]...), told(2, 1, c[1]...), api.ErrLimit)
		noCat(t, told(2, 1, c[0]...), told(1, 1, c[1]...), api.ErrDomain)
	}
}
