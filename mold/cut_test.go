package mold_test

import (
	"testing"

	"quadrat/api"
	"quadrat/mold"
)

// takesTo fails unless Take answers that array.
func takesTo(t *testing.T, l, a, asked api.Array) {
	t.Helper()
	got, e := mold.Take(l, a)
	want(t, "Take of "+both(l, a), e, api.OK)
	is(t, "Take of "+both(l, a), got, asked)
	takes(t, l, a)
}

// dropsTo fails unless Drop answers that array.
func dropsTo(t *testing.T, l, a, asked api.Array) {
	t.Helper()
	got, e := mold.Drop(l, a)
	want(t, "Drop of "+both(l, a), e, api.OK)
	is(t, "Drop of "+both(l, a), got, asked)
	drops(t, l, a)
}

// noTake fails unless Take and TakeWay answer that error, and nothing beside it.
func noTake(t *testing.T, l, a api.Array, asked api.Errno) {
	t.Helper()
	got, e := mold.Take(l, a)
	want(t, "Take of "+both(l, a), e, asked)
	is(t, "Take, beside its error", got, api.Array{})
	w, e := mold.TakeWay(l, a.Shape)
	want(t, "TakeWay of "+both(l, a), e, asked)
	isNoWay(t, "TakeWay of "+both(l, a), w)
}

// noDrop fails unless Drop and DropWay answer that error, and nothing beside it.
func noDrop(t *testing.T, l, a api.Array, asked api.Errno) {
	t.Helper()
	got, e := mold.Drop(l, a)
	want(t, "Drop of "+both(l, a), e, asked)
	is(t, "Drop, beside its error", got, api.Array{})
	w, e := mold.DropWay(l, a.Shape)
	want(t, "DropWay of "+both(l, a), e, asked)
	isNoWay(t, "DropWay of "+both(l, a), w)
}

func TestExamplesOfTakeAndDrop(t *testing.T) {
	takesTo(t, vector(3), vector(1, 2), vector(1, 2, 0))
	takesTo(t, number(3), vector(1, 2), vector(1, 2, 0))
	takesTo(t, vector(-3), vector(1, 2), vector(0, 1, 2))
	takesTo(t, number(-3), vector(1, 2), vector(0, 1, 2))
	noTake(t, number(1), told(1, 1, 2, 2), api.ErrLength)
	noTake(t, vector(1), told(1, 1, 2, 2), api.ErrLength)
	dropsTo(t, vector(-1), vector(1, 2, 3), vector(1, 2))
	dropsTo(t, number(-1), vector(1, 2, 3), vector(1, 2))
}

func TestTakeOfVectors(t *testing.T) {
	abc := text("abc")
	takesTo(t, number(0), abc, text(""))
	takesTo(t, number(1), abc, text("a"))
	takesTo(t, number(3), abc, abc)
	takesTo(t, number(5), abc, text("abc  "))
	takesTo(t, number(-1), abc, text("c"))
	takesTo(t, number(-2), abc, text("bc"))
	takesTo(t, number(-3), abc, abc)
	takesTo(t, number(-5), abc, text("  abc"))
	takesTo(t, number(2), text(""), text("  "))
	takesTo(t, number(-2), vector(), vector(0, 0))
	takesTo(t, number(0), vector(), vector())
}

func TestDropOfVectors(t *testing.T) {
	abc := text("abc")
	dropsTo(t, number(0), abc, abc)
	dropsTo(t, number(1), abc, text("bc"))
	dropsTo(t, number(2), abc, text("c"))
	dropsTo(t, number(3), abc, text(""))
	dropsTo(t, number(4), abc, text(""))
	dropsTo(t, number(-2), abc, text("a"))
	dropsTo(t, number(-3), abc, text(""))
	dropsTo(t, number(-4), abc, text(""))
	for _, n := range []int64{1 << 32, 1<<32 + 1, -1 << 32, -1<<32 - 1, greatest, least, least + 1} {
		dropsTo(t, number(n), abc, text(""))
		dropsTo(t, vector(n), vector(1), vector())
		dropsTo(t, vector(n), vector(), vector())
		dropsTo(t, vector(n), number(7), vector())
		dropsTo(t, vector(n, 1), told(1, 1, 2, 3), nums([]int{0, 2}))
		dropsTo(t, vector(-1, n), told(2, 97, 2, 3), chars([]int{1, 0}))
	}
}

func TestTakeAndDropOfScalars(t *testing.T) {
	for _, a := range []api.Array{number(7), chars(nil, 'a')} {
		alone := api.Array{Kind: a.Kind, Shape: []int{1}, Elems: a.Elems}
		none := api.Array{Kind: a.Kind, Shape: []int{0}}
		takesTo(t, number(1), a, alone)
		takesTo(t, vector(-1), a, alone)
		takesTo(t, vector(0), a, none)
		dropsTo(t, vector(0), a, alone)
		dropsTo(t, number(1), a, none)
		dropsTo(t, number(-5), a, none)
		for _, l := range []api.Array{vector(), vector(1, 1), vector(0, 0), vector(1, 1, 1, 1, 1)} {
			noTake(t, l, a, api.ErrLength)
			noDrop(t, l, a, api.ErrLength)
		}
	}
	takesTo(t, number(3), number(7), vector(7, 0, 0))
	takesTo(t, number(-3), number(7), vector(0, 0, 7))
	takesTo(t, number(3), chars(nil, 'a'), text("a  "))
}

func TestTakeAndDropAlongSeveralAxes(t *testing.T) {
	a := nums([]int{2, 3}, 1, 2, 3, 4, 5, 6)
	takesTo(t, vector(1, 2), a, nums([]int{1, 2}, 1, 2))
	takesTo(t, vector(-1, -2), a, nums([]int{1, 2}, 5, 6))
	takesTo(t, vector(3, -2), a, nums([]int{3, 2}, 2, 3, 5, 6, 0, 0))
	takesTo(t, vector(-3, 4), a, nums([]int{3, 4}, 0, 0, 0, 0, 1, 2, 3, 0, 4, 5, 6, 0))
	takesTo(t, vector(0, 4), a, nums([]int{0, 4}))
	takesTo(t, vector(2, 0), a, nums([]int{2, 0}))
	dropsTo(t, vector(1, -1), a, nums([]int{1, 2}, 4, 5))
	dropsTo(t, vector(0, 0), a, a)
	dropsTo(t, vector(-1, 1), a, nums([]int{1, 2}, 2, 3))
	dropsTo(t, vector(0, 3), a, nums([]int{2, 0}))
	dropsTo(t, vector(-2, 0), a, nums([]int{0, 3}))
	takesTo(t, vector(2, -1), nums([]int{0, 3}), nums([]int{2, 1}, 0, 0))
	takesTo(t, vector(-1, 2), chars([]int{3, 0}), chars([]int{1, 2}, ' ', ' '))
	c := told(1, 1, 2, 2, 2)
	takesTo(t, vector(1, -1, 2), c, nums([]int{1, 1, 2}, 3, 4))
	takesTo(t, vector(1, 1, 3), c, nums([]int{1, 1, 3}, 1, 2, 0))
	takesTo(t, vector(-3, 1, 1), c, nums([]int{3, 1, 1}, 0, 1, 5))
	dropsTo(t, vector(1, 0, 1), c, nums([]int{1, 2, 1}, 6, 8))
	d := told(1, 1, 2, 1, 2, 2)
	takesTo(t, vector(1, 1, -1, 1), d, nums([]int{1, 1, 1, 1}, 3))
	dropsTo(t, vector(-1, 0, 1, -1), d, nums([]int{1, 1, 1, 1}, 3))
}

// For each shape, each number along each axis.
func TestTakeAndDropAlongEachAxis(t *testing.T) {
	for _, shape := range goodShapes() {
		if countOf(shape) > 500 {
			continue
		}
		for axis := range max(1, len(shape)) {
			for n := int64(-7); n <= 7; n++ {
				l := []int64{}
				for _, length := range shape {
					l = append(l, int64(length))
				}
				if len(shape) == 0 {
					l = []int64{1}
				}
				l[axis] = n
				takes(t, vector(l...), told(1, 1, shape...))
				takes(t, vector(l...), told(2, 1, shape...))
				for other := range l {
					if other != axis {
						l[other] = 0
					}
				}
				drops(t, vector(l...), told(1, 1, shape...))
				drops(t, vector(l...), told(2, 1, shape...))
			}
		}
	}
}

func TestTakeAndDropAtRandom(t *testing.T) {
	r := noise(13)
	for range 4000 {
		shape := r.shape()
		a := told(1+r.below(2), 1, shape...)
		l := r.list(max(1, len(shape)) + r.below(12)/11)
		takes(t, l, a)
		drops(t, l, a)
	}
}

// As a list goes with the axes, it has a number for each of them; a scalar goes with one axis.
func TestListsThatHaveTooFewNumbersOrTooMany(t *testing.T) {
	for _, shape := range goodShapes() {
		for n := range 7 {
			l := vector(make([]int64, n)...)
			if n == max(1, len(shape)) {
				continue
			}
			noTake(t, l, told(1, 1, shape...), api.ErrLength)
			noDrop(t, l, told(2, 1, shape...), api.ErrLength)
		}
		for _, n := range []int64{0, 1, -1, 4097, least, greatest} {
			if len(shape) > 1 {
				noTake(t, number(n), told(1, 1, shape...), api.ErrLength)
				noDrop(t, number(n), told(1, 1, shape...), api.ErrLength)
			}
			takes(t, number(n), told(1, 1, shape...))
			drops(t, number(n), told(1, 1, shape...))
		}
	}
	noTake(t, vector(many(1, 4096)...), vector(1), api.ErrLength)
	noDrop(t, vector(many(1, 4096)...), vector(1), api.ErrLength)
}

func TestTakesThatAreJustValidAndJustNot(t *testing.T) {
	a, b := vector(1, 2), told(1, 1, 2, 2)
	for _, n := range []int64{4095, 4096, -4095, -4096} {
		takes(t, number(n), a)
		if got, e := mold.Take(number(n), a); e != api.OK || len(got.Elems) < 4095 {
			t.Errorf("Take of %d: error %d and %d elements", n, e, len(got.Elems))
		}
	}
	for _, n := range []int64{4097, -4097, 4098, 8192, 1 << 31, 1 << 32, -1 << 32, 1<<32 + 1, -1<<32 - 1, 1 << 62, least, least + 1, greatest} {
		noTake(t, number(n), a, api.ErrLimit)
		noTake(t, vector(n), vector(), api.ErrLimit)
		noTake(t, vector(n), number(5), api.ErrLimit)
		noTake(t, vector(n, 0), b, api.ErrLimit)
		noTake(t, vector(0, n), b, api.ErrLimit)
		noTake(t, vector(n, n), b, api.ErrLimit)
		noTake(t, vector(1, 0, n, 1), told(1, 1, 1, 2, 1, 2), api.ErrLimit)
	}
	for _, c := range [][2]int64{{64, 64}, {-64, 64}, {64, -64}, {-1, 4096}, {4096, -1}, {2, -2048}, {0, 4096}, {-4096, 0}, {4096, 1}} {
		takes(t, vector(c[0], c[1]), b)
		if _, e := mold.Take(vector(c[0], c[1]), b); e != api.OK {
			t.Errorf("Take of %v: error %d", c, e)
		}
	}
	for _, c := range [][2]int64{{64, 65}, {-64, 65}, {65, -64}, {2, 4096}, {-4096, 2}, {17, 241}, {-17, -241}, {1 << 32, 1 << 32}, {1 << 62, 4}, {least, 2}, {least, least}, {greatest, greatest}} {
		noTake(t, vector(c[0], c[1]), b, api.ErrLimit)
	}
	takes(t, vector(0, 4096, -4096), told(1, 1, 1, 2, 3))
	noTake(t, vector(1, 4096, -4096), told(1, 1, 1, 2, 3), api.ErrLimit)
	noTake(t, vector(8, 8, -8, 9), told(1, 1, 2, 2, 2, 2), api.ErrLimit)
	takes(t, vector(8, -8, 8, -8), told(1, 1, 2, 2, 2, 2))
}

// Whatever is dropped, what is left is as valid as it was.
func TestDropHasNoLimit(t *testing.T) {
	for _, shape := range goodShapes() {
		if len(shape) == 0 {
			continue
		}
		for _, n := range []int64{0, 1, -1, 4095, -4095, 4096, 4097, -4097, least, greatest} {
			l := make([]int64, len(shape))
			for axis := range l {
				l[axis] = n
				drops(t, vector(l...), told(1, 1, shape...))
				if _, e := mold.DropWay(vector(l...), shape); e != api.OK {
					t.Errorf("DropWay of %v and %v: error %d", l, shape, e)
				}
			}
		}
	}
}
