package mold_test

import (
	"slices"
	"testing"

	"quadrat/api"
	"quadrat/mold"
)

// reshapesTo fails unless Reshape answers that array.
func reshapesTo(t *testing.T, l, a, asked api.Array) {
	t.Helper()
	got, e := mold.Reshape(l, a)
	want(t, "Reshape of "+both(l, a), e, api.OK)
	is(t, "Reshape of "+both(l, a), got, asked)
	reshapes(t, l, a)
}

// noReshape fails unless Reshape and ReshapeWay answer that error, and nothing beside it.
func noReshape(t *testing.T, l, a api.Array, asked api.Errno) {
	t.Helper()
	got, e := mold.Reshape(l, a)
	want(t, "Reshape of "+both(l, a), e, asked)
	is(t, "Reshape, beside its error", got, api.Array{})
	w, e := mold.ReshapeWay(l, a.Shape)
	want(t, "ReshapeWay of "+both(l, a), e, asked)
	isNoWay(t, "ReshapeWay of "+both(l, a), w)
}

func TestExamplesOfReshape(t *testing.T) {
	reshapesTo(t, vector(2, 3), vector(1, 2), nums([]int{2, 3}, 1, 2, 1, 2, 1, 2))
	reshapesTo(t, vector(2), text(""), text("  "))
	noReshape(t, vector(-1), number(1), api.ErrDomain)
	noReshape(t, vector(-1), vector(1), api.ErrDomain)
	noReshape(t, number(-1), vector(1), api.ErrDomain)
}

func TestReshape(t *testing.T) {
	abc := text("abc")
	reshapesTo(t, vector(), abc, chars(nil, 'a'))
	reshapesTo(t, vector(), number(7), number(7))
	reshapesTo(t, vector(), vector(), number(0))
	reshapesTo(t, vector(), text(""), chars(nil, ' '))
	reshapesTo(t, number(0), abc, text(""))
	reshapesTo(t, number(2), abc, text("ab"))
	reshapesTo(t, number(3), abc, abc)
	reshapesTo(t, vector(3), abc, abc)
	reshapesTo(t, number(7), abc, text("abcabca"))
	reshapesTo(t, vector(3, 0), abc, chars([]int{3, 0}))
	reshapesTo(t, vector(0, 4096, 4096, 4096), abc, chars([]int{0, 4096, 4096, 4096}))
	reshapesTo(t, vector(3, 2), number(5), nums([]int{3, 2}, 5, 5, 5, 5, 5, 5))
	reshapesTo(t, vector(2, 1, 1, 2), nums([]int{2, 3}, 1, 2, 3, 4, 5, 6), nums([]int{2, 1, 1, 2}, 1, 2, 3, 4))
	reshapesTo(t, vector(2, 2), nums([]int{3, 0, 5}), nums([]int{2, 2}, 0, 0, 0, 0))
	reshapesTo(t, vector(4096), vector(5), vector(slices.Repeat([]int64{5}, 4096)...))
}

func TestReshapeBetweenAllShapes(t *testing.T) {
	for _, shape := range goodShapes() {
		for _, other := range goodShapes() {
			l := []int64{}
			for _, n := range shape {
				l = append(l, int64(n))
			}
			reshapes(t, vector(l...), told(1, 1, other...))
			reshapes(t, vector(l...), told(2, 1, other...))
			if len(shape) == 1 {
				reshapes(t, number(l[0]), told(1, 1, other...))
			}
		}
	}
}

func TestReshapeToAnyLength(t *testing.T) {
	for _, count := range []int{0, 1, 2, 3, 7, 64, 4095, 4096} {
		a := told(1, 1, count)
		for n := int64(-2); n < 4100; n += max(1, n/16) {
			reshapes(t, number(n), a)
			reshapes(t, vector(n, 1), a)
		}
		for _, n := range []int64{4095, 4096, 4097} {
			reshapes(t, number(n), a)
			reshapes(t, vector(1, n), a)
		}
	}
}

func TestReshapeByNegativeNumbers(t *testing.T) {
	for _, n := range []int64{-1, -2, -4096, -4097, -1 << 32, least, least + 1} {
		for _, l := range []api.Array{number(n), vector(n), vector(n, 2), vector(2, n), vector(n, n), vector(0, n), vector(4097, n), vector(greatest, n), vector(1, 1, 1, 1, n), vector(n, 1, 1, 1, 1, 1, 1)} {
			noReshape(t, l, vector(1, 2), api.ErrDomain)
			noReshape(t, l, text(""), api.ErrDomain)
			reshapes(t, l, told(1, 1, 2, 2))
		}
	}
}

func TestReshapeBeyondTheLimits(t *testing.T) {
	for _, l := range []api.Array{
		number(4097), vector(4097), vector(0, 4097), vector(4097, 0), vector(4096, 2), vector(64, 65), vector(65, 64), vector(17, 241), vector(8, 8, 8, 9), vector(1, 1, 1, 1, 1), vector(0, 0, 0, 0, 0), vector(1, 2, 3, 4, 5, 6, 7),
		vector(greatest), number(greatest), vector(greatest, greatest), vector(1<<32, 1<<32), vector(1<<62, 4), vector(1<<62, 4, 0), vector(0, greatest), vector(1<<32, 1<<32, 1<<32, 1<<32), vector(1 << 32), vector(1<<32 + 1), vector(1<<63-1, 2, 1), vector(many(1, 4096)...),
	} {
		noReshape(t, l, vector(1, 2), api.ErrLimit)
		noReshape(t, l, text(""), api.ErrLimit)
		noReshape(t, l, told(1, 1, 64, 64), api.ErrLimit)
	}
	for _, l := range []api.Array{number(4096), vector(4096, 1), vector(64, 64), vector(1, 1, 1, 4096), vector(8, 8, 8, 8), vector(17, 240), vector(0, 4096, 4096, 4096)} {
		reshapes(t, l, vector(1, 2))
		reshapes(t, l, vector())
		if _, e := mold.Reshape(l, vector(1, 2)); e != api.OK {
			t.Errorf("Reshape of %s: error %d", short(l), e)
		}
	}
}
