package turn_test

import (
	"slices"
	"testing"

	"quadrat/api"
	"quadrat/turn"
)

// The chapter's examples.
func TestPermute(t *testing.T) {
	fails(t, "Permute", vector(1, 1), told(1, 1, 2, 3), api.ErrDomain)
	got, e := turn.Permute(vector(2, 3, 1), told(1, 1, 2, 3, 4))
	want(t, "Permute", e, api.OK)
	if !slices.Equal(got.Shape, []int{4, 2, 3}) {
		t.Errorf("Permute of 2 3 1: shape %v", got.Shape)
	}
	makes(t, "Permute", vector(2, 3, 1), told(1, 1, 2, 3, 4), nums([]int{4, 2, 3}, 1, 5, 9, 13, 17, 21, 2, 6, 10, 14, 18, 22, 3, 7, 11, 15, 19, 23, 4, 8, 12, 16, 20, 24))
}

// The order as it is, and the other ones of few axes.
func TestPermuteOfFewAxes(t *testing.T) {
	makes(t, "Permute", vector(), number(7), number(7))
	makes(t, "Permute", vector(), text("a"), text("a"))
	makes(t, "Permute", vector(1), vector(1, 2, 3), vector(1, 2, 3))
	makes(t, "Permute", number(1), vector(1, 2, 3), vector(1, 2, 3))
	makes(t, "Permute", number(1), vector(), vector())
	makes(t, "Permute", vector(1, 2), told(1, 1, 2, 3), told(1, 1, 2, 3))
	makes(t, "Permute", vector(2, 1), told(1, 1, 2, 3), nums([]int{3, 2}, 1, 4, 2, 5, 3, 6))
	makes(t, "Permute", vector(2, 1), text("abcdef", 3, 2), text("acebdf", 2, 3))
	makes(t, "Permute", vector(2, 1), nums([]int{0, 3}), nums([]int{3, 0}))
}

// Each order of three axes: an array's axis becomes the one of the result whose number the list has for it.
func TestPermuteOfThreeAxes(t *testing.T) {
	a := told(1, 0, 2, 2, 3)
	makes(t, "Permute", vector(1, 2, 3), a, a)
	makes(t, "Permute", vector(1, 3, 2), a, nums([]int{2, 3, 2}, 0, 3, 1, 4, 2, 5, 6, 9, 7, 10, 8, 11))
	makes(t, "Permute", vector(2, 1, 3), a, nums([]int{2, 2, 3}, 0, 1, 2, 6, 7, 8, 3, 4, 5, 9, 10, 11))
	makes(t, "Permute", vector(2, 3, 1), a, nums([]int{3, 2, 2}, 0, 3, 6, 9, 1, 4, 7, 10, 2, 5, 8, 11))
	makes(t, "Permute", vector(3, 1, 2), a, nums([]int{2, 3, 2}, 0, 6, 1, 7, 2, 8, 3, 9, 4, 10, 5, 11))
	makes(t, "Permute", vector(3, 2, 1), a, nums([]int{3, 2, 2}, 0, 6, 3, 9, 1, 7, 4, 10, 2, 8, 5, 11))
}

// Every order of the axes of every shape; the reverse one is that of transpose.
func TestPermuteOfAllShapes(t *testing.T) {
	for _, shape := range goodShapes() {
		for _, l := range orders(len(shape)) {
			two(t, "Permute", l, told(1, 1, shape...))
			two(t, "Permute", l, told(2, 1, shape...))
			last := int64(len(shape))
			if slices.IsSortedFunc(l.Elems, func(a, b int64) int { return int(b - a) }) {
				makes(t, "Permute", l, told(1, 1, shape...), transposed(shape).array(told(1, 1, shape...)))
			}
			for _, n := range []int64{0, -1, last + 1, least, greatest, 1<<32 + 1} {
				for axis := range l.Elems {
					other := slices.Clone(l.Elems)
					other[axis] = n
					fails(t, "Permute", vector(other...), told(1, 1, shape...), api.ErrDomain)
				}
			}
		}
	}
}

// Every list of small numbers, of up to four: each that is no order has a number twice, or one that is none of the axes'.
func TestPermuteByAllLists(t *testing.T) {
	for n := range 5 {
		shape := []int{2, 3, 1, 2}[:n]
		asked := 0
		for _, tuple := range tuples([]int{6, 6, 6, 6}[:n]) {
			l := vector()
			for _, i := range tuple {
				l.Elems = append(l.Elems, int64(i))
			}
			l.Shape = []int{n}
			two(t, "Permute", l, told(1, 1, shape...))
			if _, e := turn.PermuteWay(l, shape); e == api.OK {
				asked++
			}
		}
		if asked != len(orders(n)) {
			t.Errorf("of %d axes, there are %d orders", n, asked)
		}
	}
}

// Lists that are no orders of the axes.
func TestPermuteByWhatIsNoOrder(t *testing.T) {
	for _, l := range []api.Array{vector(1, 1), vector(2, 2), vector(0, 1), vector(1, 0), vector(0, 0), vector(-1, 2), vector(1, -2), vector(-1, -2), vector(1, 3), vector(3, 2), vector(3, 1), vector(least, 1), vector(1, least), vector(greatest, 2), vector(least, greatest), vector(2, 1<<32+1), vector(1<<32+1, 1<<32+2), vector(-1<<63+1, 2)} {
		fails(t, "Permute", l, told(1, 1, 2, 3), api.ErrDomain)
		fails(t, "Permute", l, told(2, 97, 2, 2), api.ErrDomain)
		fails(t, "Permute", l, nums([]int{0, 0}), api.ErrDomain)
	}
	for _, n := range []int64{0, 2, -1, least, greatest, 1<<32 + 1} {
		fails(t, "Permute", number(n), vector(1, 2, 3), api.ErrDomain)
		fails(t, "Permute", vector(n), vector(1, 2, 3), api.ErrDomain)
		fails(t, "Permute", vector(n), vector(), api.ErrDomain)
	}
	fails(t, "Permute", vector(1, 2, 2), told(1, 1, 2, 2, 2), api.ErrDomain)
	fails(t, "Permute", vector(3, 2, 3), told(1, 1, 2, 2, 2), api.ErrDomain)
	fails(t, "Permute", vector(1, 2, 3, 5), told(1, 1, 2, 2, 2, 2), api.ErrDomain)
	fails(t, "Permute", vector(4, 3, 2, 4), told(1, 1, 2, 2, 2, 2), api.ErrDomain)
	fails(t, "Permute", vector(2, 1, 2, 1), told(1, 1, 1, 1, 1, 1), api.ErrDomain)
}

// A list has as many numbers as the array has axes.
func TestPermuteByTooFewNumbersOrTooMany(t *testing.T) {
	for _, shape := range goodShapes() {
		for n := range 7 {
			if n != len(shape) {
				fails(t, "Permute", vector(many(1, n)...), told(1, 1, shape...), api.ErrLength)
				fails(t, "Permute", vector(make([]int64, n)...), told(2, 1, shape...), api.ErrLength)
			}
		}
		if len(shape) != 1 {
			fails(t, "Permute", number(1), told(1, 1, shape...), api.ErrLength)
		}
	}
	fails(t, "Permute", vector(1, 2), told(1, 1, 2, 3, 4), api.ErrLength)
	fails(t, "Permute", vector(many(1, 4096)...), vector(1), api.ErrLength)
}

// A matrix is no list, and characters are no numbers, also if there are none.
func TestPermuteByWhatIsNoList(t *testing.T) {
	for _, a := range []api.Array{number(1), vector(1, 2), text("", 0), told(1, 1, 2, 2), told(2, 1, 1, 0, 2), told(1, 1, 2, 1, 2, 1)} {
		for _, l := range []api.Array{nums([]int{1, 2}, 1, 2), nums([]int{2, 1}, 1, 2), nums([]int{1, 1}, 1), nums([]int{1, 0}), told(1, 1, 2, 2), told(1, 1, 1, 1, 2), told(1, 1, 1, 1, 1, 1), chars([]int{1, 2}, 1, 2), chars([]int{0, 0})} {
			fails(t, "Permute", l, a, api.ErrRank)
		}
		for _, l := range []api.Array{text("", 0), text("a"), chars(nil, 1), chars([]int{1}, 1), chars([]int{2}, 1, 2), chars([]int{2}, 2, 1), chars([]int{3}, 3, 1, 2), chars([]int{4}, 1, 2, 3, 4), told(2, 1, 4096)} {
			fails(t, "Permute", l, a, api.ErrDomain)
		}
	}
}

func TestPermuteAtRandom(t *testing.T) {
	r := noise(99)
	for range 3000 {
		shape := r.shape()
		l := r.order(len(shape))
		if len(l.Elems) > 0 && r.below(8) == 0 {
			l.Elems[r.below(len(l.Elems))] = r.amount()
		}
		two(t, "Permute", l, told(1+r.below(2), 1, shape...))
	}
}

// A gather map of permute is one of a shape: it makes arrays of both kinds.
func TestMapsOfPermute(t *testing.T) {
	w, e := turn.PermuteWay(vector(2, 1), []int{2, 3})
	want(t, "PermuteWay", e, api.OK)
	goes(t, "PermuteWay", w, nums([]int{3, 2}, 1, 4, 2, 5, 3, 6), told(1, 1, 2, 3))
	goes(t, "PermuteWay", w, text("adbecf", 3, 2), text("abcdef", 2, 3))
}
