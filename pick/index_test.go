package pick_test

import (
	"math"
	"slices"
	"testing"

	"quadrat/api"
	"quadrat/pick"
)

// The chapter's examples.
func TestIndex(t *testing.T) {
	makes(t, index(list(3, 1)), vector(5, 6, 7), vector(7, 5))
	makes(t, index(by(2)), vector(5, 6, 7), number(6))
	fails(t, index(by(4)), vector(5, 6, 7), api.ErrIndex)
	fails(t, index(), vector(5, 6, 7), api.ErrRank)
	makes(t, index(all(), by(2)), told(1, 1, 2, 2), vector(2, 4))
}

// Indices along the one axis of a vector: in any order, more than once, and none.
func TestIndexOfAVector(t *testing.T) {
	makes(t, index(list(1)), vector(5, 6, 7), vector(5))
	makes(t, index(list(3)), vector(5, 6, 7), vector(7))
	makes(t, index(list(1, 2, 3)), vector(5, 6, 7), vector(5, 6, 7))
	makes(t, index(list(3, 2, 1)), vector(5, 6, 7), vector(7, 6, 5))
	makes(t, index(list(2, 2, 1, 2)), vector(5, 6, 7), vector(6, 6, 5, 6))
	makes(t, index(list()), vector(5, 6, 7), vector())
	makes(t, index(list()), vector(), vector())
	makes(t, index(all()), vector(5, 6, 7), vector(5, 6, 7))
	makes(t, index(all()), vector(), vector())
	makes(t, index(list(2, 1, 2)), text("ab", 2), text("bab", 3))
	makes(t, index(by(1)), text("ab", 2), text("a"))
	makes(t, index(at(told(1, 1, 2, 2))), vector(5, 6, 7, 8), nums([]int{2, 2}, 5, 6, 7, 8))
	makes(t, index(at(nums([]int{2, 1, 3}, 1, 1, 1, 2, 3, 2))), text("abc", 3), text("aaabcb", 2, 1, 3))
	makes(t, index(at(nums([]int{1, 1, 1, 1}, 2))), vector(5, 6), nums([]int{1, 1, 1, 1}, 6))
	makes(t, index(at(nums([]int{3, 0}))), vector(5, 6), nums([]int{3, 0}))
	makes(t, index(at(nums([]int{4096, 4096, 0}))), text("ab", 2), chars([]int{4096, 4096, 0}))
}

// The axes of a matrix become those of the selections, one selection after the other.
func TestIndexOfAMatrix(t *testing.T) {
	a := told(1, 1, 3, 4)
	makes(t, index(all(), all()), a, a)
	makes(t, index(by(2), by(3)), a, number(7))
	makes(t, index(by(2), all()), a, vector(5, 6, 7, 8))
	makes(t, index(all(), by(3)), a, vector(3, 7, 11))
	makes(t, index(list(3, 1), all()), a, nums([]int{2, 4}, 9, 10, 11, 12, 1, 2, 3, 4))
	makes(t, index(all(), list(4, 4)), a, nums([]int{3, 2}, 4, 4, 8, 8, 12, 12))
	makes(t, index(list(3, 2, 1), list(4, 3, 2, 1)), a, nums([]int{3, 4}, 12, 11, 10, 9, 8, 7, 6, 5, 4, 3, 2, 1))
	makes(t, index(list(2, 1, 2), list(3, 1)), a, nums([]int{3, 2}, 7, 5, 3, 1, 7, 5))
	makes(t, index(list(2), by(1)), a, vector(5))
	makes(t, index(by(2), list(1)), a, vector(5))
	makes(t, index(at(nums([]int{1, 2}, 1, 3)), list(1, 4)), a, nums([]int{1, 2, 2}, 1, 4, 9, 12))
	makes(t, index(list(1, 3), at(nums([]int{2, 1}, 1, 4))), a, nums([]int{2, 2, 1}, 1, 4, 9, 12))
	makes(t, index(at(nums([]int{2, 2}, 1, 2, 3, 1)), at(nums([]int{1, 2}, 4, 1))), a, nums([]int{2, 2, 1, 2}, 4, 1, 8, 5, 12, 9, 4, 1))
	makes(t, index(list(), all()), a, nums([]int{0, 4}))
	makes(t, index(all(), list()), a, nums([]int{3, 0}))
	makes(t, index(list(), by(1)), a, vector())
	makes(t, index(at(nums([]int{0, 2})), at(nums([]int{3, 0}))), a, nums([]int{0, 2, 3, 0}))
	makes(t, index(by(3), list(2, 1)), text("abcdef", 3, 2), text("fe", 2))
}

// Three and four axes.
func TestIndexOfMoreAxes(t *testing.T) {
	a := told(1, 1, 2, 3, 4)
	makes(t, index(all(), all(), all()), a, a)
	makes(t, index(by(2), by(3), by(4)), a, number(24))
	makes(t, index(by(2), all(), by(1)), a, vector(13, 17, 21))
	makes(t, index(list(2, 1), by(1), list(4, 1)), a, nums([]int{2, 2}, 16, 13, 4, 1))
	makes(t, index(by(1), at(nums([]int{2, 2}, 1, 2, 3, 1)), list(2)), a, nums([]int{2, 2, 1}, 2, 6, 10, 2))
	makes(t, index(all(), list(3), by(1)), text("abcdefgh", 2, 4, 1), text("cg", 2, 1))
	b := told(1, 1, 2, 3, 1, 2)
	makes(t, index(all(), all(), all(), all()), b, b)
	makes(t, index(by(2), by(3), by(1), by(1)), b, number(11))
	makes(t, index(by(2), list(1, 3), by(1), all()), b, nums([]int{2, 2}, 7, 8, 11, 12))
	makes(t, index(list(2), list(3, 1), list(1, 1), list(2)), b, nums([]int{1, 2, 2, 1}, 12, 12, 8, 8))
	makes(t, index(at(nums([]int{1, 2, 1, 1}, 2, 1)), by(1), by(1), by(2)), b, nums([]int{1, 2, 1, 1}, 8, 2))
}

// A scalar has no axes, so there is nothing to select.
func TestIndexOfAScalar(t *testing.T) {
	makes(t, index(), number(7), number(7))
	makes(t, index(), number(least), number(least))
	makes(t, index(), text("a"), text("a"))
	makes(t, index(), nums([]int{}, 7), number(7))
	for _, x := range []api.Axis{all(), by(1), list(1), list(), by(0), at(text("a"))} {
		fails(t, index(x), number(7), api.ErrRank)
		fails(t, index(x, x), text("a"), api.ErrRank)
	}
	got, e := pick.Index(number(7), nil)
	want(t, "Index by nil", e, api.OK)
	is(t, "Index by nil", got, number(7))
}

// Arrays without elements have all of their axes, and no indices along those of no length.
func TestIndexOfNothing(t *testing.T) {
	makes(t, index(all(), all()), nums([]int{0, 3}), nums([]int{0, 3}))
	makes(t, index(list(), all()), chars([]int{0, 3}), chars([]int{0, 3}))
	makes(t, index(all(), list(3, 1)), chars([]int{0, 3}), chars([]int{0, 2}))
	makes(t, index(all(), by(3)), nums([]int{0, 3}), vector())
	makes(t, index(by(3), all()), nums([]int{3, 0}), vector())
	makes(t, index(list(2, 2, 2, 2), all()), nums([]int{3, 0}), nums([]int{4, 0}))
	makes(t, index(all(), all(), all()), nums([]int{4096, 4096, 0}), nums([]int{4096, 4096, 0}))
	makes(t, index(by(4096), by(4096), all()), nums([]int{4096, 4096, 0}), vector())
	makes(t, index(by(4096), by(4096), at(nums([]int{3, 0}))), chars([]int{4096, 4096, 0}), chars([]int{3, 0}))
	for _, n := range []int64{0, 1, -1, least, greatest} {
		fails(t, index(by(n)), vector(), api.ErrIndex)
		fails(t, index(list(n)), text("", 0), api.ErrIndex)
		fails(t, index(by(n), all()), nums([]int{0, 3}), api.ErrIndex)
		fails(t, index(all(), list(n)), nums([]int{3, 0}), api.ErrIndex)
	}
	fails(t, index(by(4), all()), nums([]int{3, 0}), api.ErrIndex)
	fails(t, index(list(1, 2, 0), list()), told(1, 1, 3, 3), api.ErrIndex)
	fails(t, index(list(), list(4)), told(1, 1, 3, 3), api.ErrIndex)
}

// Any index outside of its axis is one too many, wherever it stands, and however great it is.
func TestIndicesThatThereAreNot(t *testing.T) {
	for _, n := range []int64{0, -1, -2, -3, 4, 5, 4096, 4097, 1 << 31, 1<<32 + 1, 1<<32 + 2, -1<<32 + 1, 1<<62 + 1, math.MaxInt32, math.MinInt32, least, least + 1, least + 3, greatest, greatest - 1} {
		fails(t, index(by(n)), vector(5, 6, 7), api.ErrIndex)
		fails(t, index(list(n)), vector(5, 6, 7), api.ErrIndex)
		fails(t, index(list(n, 1, 2)), vector(5, 6, 7), api.ErrIndex)
		fails(t, index(list(1, n, 2)), vector(5, 6, 7), api.ErrIndex)
		fails(t, index(list(1, 2, n)), text("abc", 3), api.ErrIndex)
		fails(t, index(at(nums([]int{2, 2}, 1, 2, 3, n))), vector(5, 6, 7), api.ErrIndex)
		fails(t, index(by(n), all()), told(1, 1, 3, 3), api.ErrIndex)
		fails(t, index(all(), by(n)), told(1, 1, 3, 3), api.ErrIndex)
		fails(t, index(by(n), by(n)), told(1, 1, 3, 3), api.ErrIndex)
		fails(t, index(list(1), list(1), list(1), list(2, n)), told(1, 1, 1, 2, 1, 3), api.ErrIndex)
	}
}

// Each axis has a length of its own: what is an index along one of them may be none along another.
func TestIndicesAlongOtherAxes(t *testing.T) {
	a := told(1, 1, 2, 3)
	makes(t, index(by(2), by(3)), a, number(6))
	fails(t, index(by(3), by(2)), a, api.ErrIndex)
	fails(t, index(list(1, 2, 3), all()), a, api.ErrIndex)
	makes(t, index(all(), list(1, 2, 3)), a, a)
	fails(t, index(by(1), by(4)), a, api.ErrIndex)
	fails(t, index(by(1), by(6)), a, api.ErrIndex)
	fails(t, index(by(6), by(1)), a, api.ErrIndex)
}

// There is exactly one selection for each axis.
func TestTooFewAndTooManySelections(t *testing.T) {
	for _, shape := range fewShapes() {
		for n := range 7 {
			for _, x := range []api.Axis{all(), by(1), list(), list(1)} {
				c, a := index(slices.Repeat([]api.Axis{x}, n)...), told(1, 1, shape...)
				one(t, c, a)
				if n != len(shape) {
					fails(t, c, a, api.ErrRank)
				}
			}
		}
	}
	fails(t, index(slices.Repeat([]api.Axis{all()}, 5000)...), vector(1), api.ErrRank)
}

// Characters are no indices, also if there are none, and if their codes are indices.
func TestIndicesThatAreCharacters(t *testing.T) {
	a := told(1, 1, 2, 3)
	for _, x := range []api.Array{text("a"), text("ab", 2), text("", 0), chars(nil, 1), chars([]int{2}, 1, 2), chars([]int{2, 0}), chars([]int{1, 2}, 1, 1)} {
		fails(t, index(at(x)), vector(5, 6), api.ErrDomain)
		fails(t, index(at(x)), text("ab", 2), api.ErrDomain)
		fails(t, index(at(x), all()), a, api.ErrDomain)
		fails(t, index(all(), at(x)), a, api.ErrDomain)
		fails(t, index(by(1), at(x)), a, api.ErrDomain)
		fails(t, index(at(x), at(x)), a, api.ErrDomain)
	}
}

// An array of indices that is not valid is an error wherever it stands, but no array is asked for where all of an axis is selected.
func TestIndicesThatAreNotValid(t *testing.T) {
	for _, bad := range badArrays() {
		fails(t, index(at(bad)), vector(5, 6), api.ErrArray)
		fails(t, index(at(bad), all()), told(1, 1, 2, 2), api.ErrArray)
		fails(t, index(all(), at(bad)), told(2, 1, 2, 2), api.ErrArray)
		fails(t, index(by(9), at(bad)), told(1, 1, 2, 2), api.ErrArray)
		fails(t, index(at(text("a")), at(bad)), told(1, 1, 2, 2), api.ErrArray)
		fails(t, index(at(bad)), number(1), api.ErrArray)
		fails(t, index(all(), all(), at(bad)), told(1, 1, 2, 2), api.ErrArray)
		fails(t, index(at(bad)), told(1, 1, 2, 2), api.ErrArray)
		unused := api.Axis{All: true, At: bad}
		makes(t, index(unused), vector(5, 6), vector(5, 6))
		makes(t, index(unused, by(2)), told(1, 1, 2, 2), vector(2, 4))
		makes(t, index(by(2), unused), told(1, 1, 2, 2), vector(3, 4))
		fails(t, index(unused), number(1), api.ErrRank)
		fails(t, index(unused, by(3)), told(1, 1, 2, 2), api.ErrIndex)
	}
	for _, other := range []api.Array{text("ab", 2), number(0), vector(9, 9), told(1, 1, 2, 2), {}} {
		makes(t, index(api.Axis{All: true, At: other}), vector(5, 6), vector(5, 6))
	}
}

// A result has no more axes, and no more elements, than an array may have.
func TestIndexAboveTheGreatest(t *testing.T) {
	five, four := at(nums([]int{1, 1, 1, 1}, 1)), at(nums([]int{1, 1, 1}, 1))
	makes(t, index(five, by(1)), told(1, 1, 2, 2), nums([]int{1, 1, 1, 1}, 1))
	fails(t, index(five, list(1)), told(1, 1, 2, 2), api.ErrLimit)
	fails(t, index(all(), five), told(1, 1, 2, 2), api.ErrLimit)
	makes(t, index(four, all()), told(1, 1, 2, 2), nums([]int{1, 1, 1, 2}, 1, 2))
	fails(t, index(four, four), told(1, 1, 2, 2), api.ErrLimit)
	fails(t, index(five, five, five, five), told(1, 1, 1, 1, 1, 1), api.ErrLimit)
	fails(t, index(at(nums([]int{0, 1, 1})), at(nums([]int{0, 1}))), told(1, 1, 2, 2), api.ErrLimit)
	ones := func(n int) api.Axis { return list(make1s(n)...) }
	makes(t, index(ones(4096)), vector(5), vector(slices.Repeat([]int64{5}, 4096)...))
	makes(t, index(ones(64), ones(64)), told(1, 5, 2, 2), nums([]int{64, 64}, slices.Repeat([]int64{5}, 4096)...))
	fails(t, index(ones(64), ones(65)), told(1, 5, 2, 2), api.ErrLimit)
	fails(t, index(ones(4096), all()), told(1, 5, 2, 2), api.ErrLimit)
	makes(t, index(ones(2048), all()), told(1, 5, 1, 2), nums([]int{2048, 2}, slices.Repeat([]int64{5, 6}, 2048)...))
	fails(t, index(ones(4096), ones(4096), ones(4096), ones(4096)), told(1, 1, 1, 1, 1, 1), api.ErrLimit)
	makes(t, index(list(), ones(4096)), told(1, 5, 2, 2), nums([]int{0, 4096}))
	makes(t, index(list(), ones(4096), ones(4096)), told(1, 5, 2, 2, 2), nums([]int{0, 4096, 4096}))
	fails(t, index(all(), all(), list(1)), nums([]int{4096, 4096, 0}), api.ErrLimit)
	fails(t, index(all(), all(), by(1)), nums([]int{4096, 4096, 0}), api.ErrLimit)
}

// The greatest arrays.
func TestIndexOfTheGreatest(t *testing.T) {
	r := noise(3)
	for _, shape := range [][]int{{4096}, {64, 64}, {1, 4096}, {4096, 1}, {16, 16, 16}, {8, 8, 8, 8}} {
		var l []api.Axis
		for _, length := range shape {
			var indices []int64
			for range length {
				indices = append(indices, int64(1+r.below(length)))
			}
			l = append(l, list(indices...))
		}
		one(t, index(l...), told(1, 1, shape...))
		one(t, index(l...), told(2, 97, shape...))
		makes(t, index(slices.Repeat([]api.Axis{all()}, len(shape))...), told(1, 1, shape...), told(1, 1, shape...))
	}
	makes(t, index(by(4096)), told(1, 1, 4096), number(4096))
	fails(t, index(by(4097)), told(1, 1, 4096), api.ErrIndex)
}

// axis is the next selection from an axis of that length, most often one that there is.
func (r *noise) axis(length int) api.Axis {
	if r.below(4) == 0 {
		return all()
	}
	a := nums(r.shape())
	a.Shape = a.Shape[:len(a.Shape)*r.below(3)/2]
	for range countOf(a.Shape) {
		n := int64(1 + r.below(max(1, length)))
		if r.below(300) == 0 {
			n = []int64{0, -1, int64(length) + 1, least, greatest}[r.below(5)]
		}
		a.Elems = append(a.Elems, n)
	}
	return at(a)
}

func TestIndexAtRandom(t *testing.T) {
	r, e := noise(29), map[api.Errno]int{}
	for range 6000 {
		shape := r.shape()
		var l []api.Axis
		for _, length := range shape {
			l = append(l, r.axis(length))
		}
		if r.below(30) == 0 {
			l = append(l, all())
		}
		if len(l) > 0 && r.below(30) == 0 {
			l[r.below(len(l))].At.Kind = 2
		}
		one(t, index(l...), told(1+r.below(2), 1, shape...))
		e[indexed(shape, l).e]++
	}
	for of, least := range map[api.Errno]int{api.OK: 3000, api.ErrRank: 50, api.ErrLimit: 50, api.ErrIndex: 50, api.ErrDomain: 20} {
		if e[of] < least {
			t.Errorf("only %d of error %d", e[of], of)
		}
	}
}

// A gather map of index is one of a shape: it makes arrays of both kinds.
func TestMapsOfIndex(t *testing.T) {
	w, e := pick.IndexWay([]int{2, 3}, []api.Axis{by(2), list(3, 1)})
	want(t, "IndexWay", e, api.OK)
	goes(t, "IndexWay", w, vector(6, 4), told(1, 1, 2, 3))
	goes(t, "IndexWay", w, text("fd", 2), text("abcdef", 2, 3))
}
