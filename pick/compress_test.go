package pick_test

import (
	"slices"
	"testing"

	"quadrat/api"
	"quadrat/pick"
)

// The chapter's examples.
func TestCompress(t *testing.T) {
	makes(t, compress(vector(1, 0, 2)), vector(7, 8, 9), vector(7, 9, 9))
	makes(t, compress(number(2)), vector(7, 8), vector(7, 7, 8, 8))
	makes(t, compress(vector(1, 1)), number(5), vector(5, 5))
	fails(t, compress(vector(1, 2)), vector(7, 8, 9), api.ErrLength)
}

// A vector, by ones, noughts, and numbers above one.
func TestCompressOfAVector(t *testing.T) {
	makes(t, compress(vector(1, 1, 1)), vector(7, 8, 9), vector(7, 8, 9))
	makes(t, compress(vector(0, 0, 0)), vector(7, 8, 9), vector())
	makes(t, compress(vector(1, 0, 1)), text("abc", 3), text("ac", 2))
	makes(t, compress(vector(0, 0, 1)), vector(7, 8, 9), vector(9))
	makes(t, compress(vector(1, 0, 0)), vector(7, 8, 9), vector(7))
	makes(t, compress(vector(3, 2, 1)), vector(7, 8, 9), vector(7, 7, 7, 8, 8, 9))
	makes(t, compress(vector(0, 5, 0)), text("abc", 3), text("bbbbb", 5))
	makes(t, compress(vector(1)), vector(7), vector(7))
	makes(t, compress(vector(0)), vector(7), vector())
	makes(t, compress(vector(4)), text("a", 1), text("aaaa", 4))
	makes(t, compress(vector()), vector(), vector())
	makes(t, compress(vector()), text("", 0), text("", 0))
}

// The rows of an array lie along its last axis.
func TestCompressOfRows(t *testing.T) {
	makes(t, compress(vector(1, 0, 2)), told(1, 1, 2, 3), nums([]int{2, 3}, 1, 3, 3, 4, 6, 6))
	makes(t, compress(vector(0, 1, 0)), told(1, 1, 2, 3), nums([]int{2, 1}, 2, 5))
	makes(t, compress(vector(0, 0, 0)), told(1, 1, 2, 3), nums([]int{2, 0}))
	makes(t, compress(vector(3)), told(1, 1, 2, 1), nums([]int{2, 3}, 1, 1, 1, 2, 2, 2))
	makes(t, compress(vector(0, 2)), told(1, 1, 2, 3, 2), nums([]int{2, 3, 2}, 2, 2, 4, 4, 6, 6, 8, 8, 10, 10, 12, 12))
	makes(t, compress(vector(1, 0)), text("abcdefgh", 2, 2, 2), text("aceg", 2, 2, 1))
	makes(t, compress(vector(1, 2)), told(1, 1, 1, 2, 1, 2), nums([]int{1, 2, 1, 3}, 1, 2, 2, 3, 4, 4))
	makes(t, compress(vector(1, 1, 1)), told(2, 97, 2, 3), told(2, 97, 2, 3))
	fails(t, compress(vector(1, 1)), told(1, 1, 2, 3), api.ErrLength)
	fails(t, compress(vector(1, 1, 1)), told(1, 1, 3, 2), api.ErrLength)
}

// One number is for all elements of a row.
func TestCompressByAScalar(t *testing.T) {
	makes(t, compress(number(1)), vector(7, 8), vector(7, 8))
	makes(t, compress(number(0)), vector(7, 8), vector())
	makes(t, compress(number(3)), text("ab", 2), text("aaabbb", 6))
	makes(t, compress(number(2)), told(1, 1, 2, 2), nums([]int{2, 4}, 1, 1, 2, 2, 3, 3, 4, 4))
	makes(t, compress(number(0)), told(1, 1, 2, 2), nums([]int{2, 0}))
	makes(t, compress(number(2)), told(1, 1, 2, 2, 1), nums([]int{2, 2, 2}, 1, 1, 2, 2, 3, 3, 4, 4))
	makes(t, compress(nums([]int{}, 2)), vector(7), vector(7, 7))
	for n := range int64(6) {
		for _, shape := range fewShapes() {
			one(t, compress(number(n)), told(1, 1, shape...))
			one(t, compress(number(n)), told(2, 97, shape...))
		}
	}
}

// A scalar has as many copies as the list has numbers, and one if the list is a scalar.
func TestCompressOfAScalar(t *testing.T) {
	makes(t, compress(vector(1)), number(5), vector(5))
	makes(t, compress(vector(3)), number(5), vector(5, 5, 5))
	makes(t, compress(vector(0)), number(5), vector())
	makes(t, compress(vector()), number(5), vector())
	makes(t, compress(vector()), text("a"), text("", 0))
	makes(t, compress(vector(0, 2, 1, 0)), text("a"), text("aaa", 3))
	makes(t, compress(vector(0, 0)), text("a"), text("", 0))
	makes(t, compress(number(1)), number(5), vector(5))
	makes(t, compress(number(0)), number(5), vector())
	makes(t, compress(number(4)), text("a"), text("aaaa", 4))
	makes(t, compress(number(4096)), number(5), vector(slices.Repeat([]int64{5}, 4096)...))
	makes(t, compress(vector(make1s(4096)...)), text("a"), chars([]int{4096}, slices.Repeat([]int64{97}, 4096)...))
	makes(t, compress(vector(4000, 0, 96)), number(5), vector(slices.Repeat([]int64{5}, 4096)...))
	fails(t, compress(number(4097)), number(5), api.ErrLimit)
	fails(t, compress(vector(4000, 97)), number(5), api.ErrLimit)
	fails(t, compress(vector(greatest, greatest)), number(5), api.ErrLimit)
	fails(t, compress(vector(greatest, greatest, 2)), text("a"), api.ErrLimit)
	fails(t, compress(vector(1<<32, 1)), text("a"), api.ErrLimit)
}

// An array without elements, of each kind of emptiness.
func TestCompressOfNothing(t *testing.T) {
	makes(t, compress(vector(1, 0, 2)), nums([]int{0, 3}), nums([]int{0, 3}))
	makes(t, compress(vector(1, 0, 0)), chars([]int{0, 3}), chars([]int{0, 1}))
	makes(t, compress(vector(2, 2, 2)), nums([]int{0, 3}), nums([]int{0, 6}))
	makes(t, compress(vector()), nums([]int{3, 0}), nums([]int{3, 0}))
	makes(t, compress(vector()), chars([]int{4096, 4096, 0}), chars([]int{4096, 4096, 0}))
	makes(t, compress(vector()), chars([]int{0, 0}), chars([]int{0, 0}))
	for _, n := range []int64{0, 1, 2, 4096, 4097, 1 << 32, greatest} {
		makes(t, compress(number(n)), vector(), vector())
		makes(t, compress(number(n)), text("", 0), text("", 0))
		makes(t, compress(number(n)), nums([]int{3, 0}), nums([]int{3, 0}))
		makes(t, compress(number(n)), chars([]int{4096, 4096, 0}), chars([]int{4096, 4096, 0}))
	}
	makes(t, compress(number(1000)), nums([]int{0, 3}), nums([]int{0, 3000}))
	makes(t, compress(number(4096)), nums([]int{0, 1}), nums([]int{0, 4096}))
	fails(t, compress(number(4097)), nums([]int{0, 1}), api.ErrLimit)
	fails(t, compress(number(greatest)), nums([]int{0, 2}), api.ErrLimit)
	fails(t, compress(vector(4000, 97)), nums([]int{0, 2}), api.ErrLimit)
	fails(t, compress(vector(greatest, greatest)), nums([]int{0, 2}), api.ErrLimit)
	fails(t, compress(vector(1)), vector(), api.ErrLength)
	fails(t, compress(vector(0)), nums([]int{3, 0}), api.ErrLength)
	fails(t, compress(vector()), nums([]int{0, 3}), api.ErrLength)
}

// A list of no numbers goes with rows of no elements, and with a scalar.
func TestCompressByNoNumbers(t *testing.T) {
	fails(t, compress(vector()), vector(7), api.ErrLength)
	fails(t, compress(vector()), told(1, 1, 2, 2), api.ErrLength)
	makes(t, compress(api.Array{Kind: 1, Shape: []int{0}}), nums([]int{2, 0}), nums([]int{2, 0}))
	for _, shape := range goodShapes() {
		one(t, compress(vector()), told(1, 1, shape...))
	}
}

// No element can be left out more often than once.
func TestCompressByNegativeNumbers(t *testing.T) {
	for _, n := range []int64{-1, -2, -4096, -1 << 32, -1<<32 + 1, least, least + 1} {
		for _, shape := range goodShapes() {
			fails(t, compress(number(n)), told(1, 1, shape...), api.ErrDomain)
			fails(t, compress(vector(n)), told(1, 1, shape...), api.ErrDomain)
		}
		fails(t, compress(vector(n, 1, 2)), vector(7, 8, 9), api.ErrDomain)
		fails(t, compress(vector(1, n, 2)), vector(7, 8, 9), api.ErrDomain)
		fails(t, compress(vector(1, 2, n)), text("abc", 3), api.ErrDomain)
		fails(t, compress(vector(4000, greatest, n)), text("abc", 3), api.ErrDomain)
		fails(t, compress(vector(1, n)), number(5), api.ErrDomain)
	}
}

// Numbers as great as may be; no sum of them is held to be a lesser one.
func TestCompressByTheLeastAndTheGreatest(t *testing.T) {
	fails(t, compress(number(greatest)), vector(7), api.ErrLimit)
	fails(t, compress(number(greatest)), vector(7, 8), api.ErrLimit)
	fails(t, compress(number(greatest)), told(1, 1, 2, 2), api.ErrLimit)
	fails(t, compress(vector(greatest)), vector(7), api.ErrLimit)
	fails(t, compress(vector(greatest, greatest)), vector(7, 8), api.ErrLimit)
	fails(t, compress(vector(greatest, greatest, 2)), vector(7, 8, 9), api.ErrLimit)
	fails(t, compress(vector(greatest, greatest, 3)), text("abc", 3), api.ErrLimit)
	fails(t, compress(vector(1, greatest, 0)), vector(7, 8, 9), api.ErrLimit)
	fails(t, compress(vector(1<<62, 1<<62, 1<<62, 1<<62)), told(1, 1, 4), api.ErrLimit)
	fails(t, compress(vector(1<<32, 0)), vector(7, 8), api.ErrLimit)
	fails(t, compress(vector(1<<32+1, 1)), vector(7, 8), api.ErrLimit)
	fails(t, compress(number(1<<62)), told(1, 1, 4), api.ErrLimit)
	fails(t, compress(number(1<<52)), told(1, 1, 4096), api.ErrLimit)
}

// A list has as many numbers as a row has elements, unless one of the two is a scalar.
func TestCompressByTooFewAndTooMany(t *testing.T) {
	for _, shape := range fewShapes() {
		for n := range 7 {
			c, a := compress(vector(make1s(n)...)), told(1, 1, shape...)
			one(t, c, a)
			if len(shape) > 0 && shape[len(shape)-1] != n {
				fails(t, c, a, api.ErrLength)
			}
		}
	}
	fails(t, compress(vector(1)), vector(7, 8, 9), api.ErrLength)
	fails(t, compress(vector(1, 1, 1, 1)), vector(7, 8, 9), api.ErrLength)
	fails(t, compress(vector(1, 1)), vector(7), api.ErrLength)
	fails(t, compress(vector(make1s(4096)...)), told(1, 1, 4095), api.ErrLength)
}

// Characters repeat nothing, also if there are none, and if their codes would do.
func TestCompressByCharacters(t *testing.T) {
	for _, l := range []api.Array{text("a"), chars(nil, 1), chars(nil, 0), chars([]int{3}, 1, 0, 2), text("abc", 3), text("", 0)} {
		fails(t, compress(l), vector(7, 8, 9), api.ErrDomain)
		fails(t, compress(l), text("abc", 3), api.ErrDomain)
		fails(t, compress(l), told(1, 1, 2, 3), api.ErrDomain)
		fails(t, compress(l), number(5), api.ErrDomain)
		fails(t, compress(l), vector(), api.ErrDomain)
	}
}

// What has more than one axis is no list.
func TestCompressByAMatrix(t *testing.T) {
	for _, shape := range goodShapes() {
		if len(shape) > 1 {
			for _, l := range []api.Array{told(1, 0, shape...), told(1, -5, shape...), told(2, 1, shape...)} {
				fails(t, compress(l), vector(7, 8, 9), api.ErrRank)
				fails(t, compress(l), told(2, 1, 3, 1), api.ErrRank)
				fails(t, compress(l), number(5), api.ErrRank)
			}
		}
	}
	fails(t, compress(nums([]int{1, 3}, 1, 1, 1)), vector(7, 8, 9), api.ErrRank)
	fails(t, compress(nums([]int{1, 1}, 1)), number(5), api.ErrRank)
}

// A list that is not valid is none.
func TestCompressByWhatIsNotValid(t *testing.T) {
	for _, bad := range badArrays() {
		for _, a := range []api.Array{vector(7), vector(7, 8), vector(), number(5), told(2, 1, 2, 2), text("a")} {
			fails(t, compress(bad), a, api.ErrArray)
		}
	}
}

// No row is longer, and no array has more elements, than there may be.
func TestCompressAboveTheGreatest(t *testing.T) {
	makes(t, compress(number(2)), told(1, 1, 2048), compressed([]int{2048}, number(2)).array(told(1, 1, 2048)))
	fails(t, compress(number(2)), told(1, 1, 2049), api.ErrLimit)
	makes(t, compress(number(4096)), vector(7), vector(slices.Repeat([]int64{7}, 4096)...))
	fails(t, compress(number(4097)), vector(7), api.ErrLimit)
	makes(t, compress(vector(4096, 0)), vector(7, 8), vector(slices.Repeat([]int64{7}, 4096)...))
	makes(t, compress(vector(0, 4096)), vector(7, 8), vector(slices.Repeat([]int64{8}, 4096)...))
	makes(t, compress(vector(2048, 2048)), text("ab", 2), chars([]int{4096}, slices.Concat(slices.Repeat([]int64{97}, 2048), slices.Repeat([]int64{98}, 2048))...))
	fails(t, compress(vector(1, 4096)), vector(7, 8), api.ErrLimit)
	fails(t, compress(vector(4096, 1)), vector(7, 8), api.ErrLimit)
	fails(t, compress(vector(4097, 0)), vector(7, 8), api.ErrLimit)
	fails(t, compress(vector(0, 4097)), vector(7, 8), api.ErrLimit)
	one(t, compress(number(2048)), told(1, 1, 2, 1))
	fails(t, compress(number(2049)), told(1, 1, 2, 1), api.ErrLimit)
	fails(t, compress(vector(1000, 1000)), told(1, 1, 3, 2), api.ErrLimit)
	one(t, compress(vector(1000, 365)), told(1, 1, 3, 2))
	one(t, compress(vector(slices.Repeat([]int64{2, 0}, 32)...)), told(1, 1, 64, 64))
	fails(t, compress(vector(append(make1s(63), 2)...)), told(1, 1, 64, 64), api.ErrLimit)
	makes(t, compress(number(1)), told(1, 1, 8, 8, 8, 8), told(1, 1, 8, 8, 8, 8))
	fails(t, compress(number(2)), told(1, 1, 8, 8, 8, 8), api.ErrLimit)
}

func TestCompressAtRandom(t *testing.T) {
	r, e := noise(31), map[api.Errno]int{}
	for range 6000 {
		shape := r.shape()
		n := r.below(5)
		if len(shape) > 0 && r.below(8) > 0 {
			n = shape[len(shape)-1]
		}
		l := vector()
		for range n {
			x := int64(r.below(4))
			switch r.below(200) {
			case 0:
				x = int64(r.next())
			case 1:
				x = int64(r.below(5000))
			}
			l.Elems = append(l.Elems, x)
		}
		if l.Shape = []int{n}; r.below(6) == 0 {
			l = number(int64(r.below(5)))
		}
		one(t, compress(l), told(1+r.below(2), 1, shape...))
		e[compressed(shape, l).e]++
	}
	for of, least := range map[api.Errno]int{api.OK: 3000, api.ErrLength: 100, api.ErrLimit: 20, api.ErrDomain: 10} {
		if e[of] < least {
			t.Errorf("only %d of error %d", e[of], of)
		}
	}
}

// A gather map of compress is one of a shape: it makes arrays of both kinds.
func TestMapsOfCompress(t *testing.T) {
	w, e := pick.CompressWay(vector(0, 2), []int{2, 2})
	want(t, "CompressWay", e, api.OK)
	goes(t, "CompressWay", w, nums([]int{2, 2}, 2, 2, 4, 4), told(1, 1, 2, 2))
	goes(t, "CompressWay", w, text("bbdd", 2, 2), text("abcd", 2, 2))
	w, e = pick.CompressWay(vector(1, 2), nil)
	want(t, "CompressWay", e, api.OK)
	goes(t, "CompressWay", w, vector(5, 5, 5), number(5))
	goes(t, "CompressWay", w, text("aaa", 3), text("a"))
}
