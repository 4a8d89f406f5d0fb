package fold_test

import (
	"slices"
	"testing"

	"quadrat/api"
	"quadrat/fold"
)

// The chapter's example.
func TestOuter(t *testing.T) {
	makes(t, outer(mul, vector(1, 2), vector(3, 4)), nums([]int{2, 2}, 3, 4, 6, 8))
}

func TestOuterOfScalars(t *testing.T) {
	makes(t, outer(sub, number(5), number(3)), number(2))
	makes(t, outer(div, nums([]int{}, -7), number(2)), number(-4))
	makes(t, outer(eq, text("a"), text("a")), number(1))
	makes(t, outer(sub, number(5), vector(1, 2, 3)), vector(4, 3, 2))
	makes(t, outer(sub, vector(1, 2, 3), number(5)), vector(-4, -3, -2))
	makes(t, outer(pow, number(2), told(1, 1, 2, 2)), nums([]int{2, 2}, 2, 4, 8, 16))
	makes(t, outer(pow, told(1, 1, 2, 2), number(2)), nums([]int{2, 2}, 1, 4, 9, 16))
	makes(t, outer(add, number(1), nums([]int{1}, 2)), vector(3))
	makes(t, outer(add, nums([]int{1, 1}, 2), number(1)), nums([]int{1, 1}, 3))
	makes(t, outer(lt, number(1), told(1, 0, 1, 2, 1, 2)), nums([]int{1, 2, 1, 2}, 0, 0, 1, 1))
}

// The first array's axes stand ahead of the second one's.
func TestOuterOfAxes(t *testing.T) {
	makes(t, outer(sub, vector(1, 2, 3), vector(10, 20)), nums([]int{3, 2}, -9, -19, -8, -18, -7, -17))
	makes(t, outer(sub, vector(10, 20), vector(1, 2, 3)), nums([]int{2, 3}, 9, 8, 7, 19, 18, 17))
	makes(t, outer(mul, vector(1, 2), told(1, 1, 2, 2)), nums([]int{2, 2, 2}, 1, 2, 3, 4, 2, 4, 6, 8))
	makes(t, outer(mul, told(1, 1, 2, 2), vector(1, 2)), nums([]int{2, 2, 2}, 1, 2, 2, 4, 3, 6, 4, 8))
	makes(t, outer(sub, told(1, 1, 2, 2), told(1, 0, 1, 3)), nums([]int{2, 2, 1, 3}, 1, 0, -1, 2, 1, 0, 3, 2, 1, 4, 3, 2))
	makes(t, outer(sub, told(1, 1, 1, 2, 1), vector(1, 2)), nums([]int{1, 2, 1, 2}, 0, -1, 1, 0))
	makes(t, outer(sub, vector(1, 2), told(1, 1, 1, 2, 1)), nums([]int{2, 1, 2, 1}, 0, -1, 1, 0))
	makes(t, outer(add, told(1, 1, 2, 1, 2, 1), number(5)), told(1, 6, 2, 1, 2, 1))
	makes(t, outer(add, number(5), told(1, 1, 2, 1, 2, 1)), told(1, 6, 2, 1, 2, 1))
}

// With an array without elements there are none, and no error of one.
func TestOuterOfNothing(t *testing.T) {
	for _, f := range dyadic() {
		makes(t, outer(f, vector(), vector()), nums([]int{0, 0}))
		makes(t, outer(f, vector(), vector(1, 2)), nums([]int{0, 2}))
		makes(t, outer(f, vector(1, 0, 2), vector()), nums([]int{3, 0}))
		makes(t, outer(f, number(0), vector()), vector())
		makes(t, outer(f, vector(), number(0)), vector())
		makes(t, outer(f, nums([]int{0, 3}), told(1, 0, 2, 2)), nums([]int{0, 3, 2, 2}))
		makes(t, outer(f, told(1, 0, 2, 2), nums([]int{3, 0})), nums([]int{2, 2, 3, 0}))
		makes(t, outer(f, nums([]int{4096, 4096, 0}), told(1, 1, 4096)), nums([]int{4096, 4096, 0, 4096}))
		makes(t, outer(f, told(1, 1, 4096), nums([]int{4096, 0, 4096})), nums([]int{4096, 4096, 0, 4096}))
	}
}

// Too many axes, and too many elements.
func TestOuterThatIsTooGreat(t *testing.T) {
	for _, f := range dyadic() {
		fails(t, outer(f, told(1, 1, 1, 1, 1), told(1, 1, 1, 1)), api.ErrLimit)
		fails(t, outer(f, vector(1), told(1, 1, 1, 1, 1, 1)), api.ErrLimit)
		fails(t, outer(f, told(1, 1, 1, 1, 1, 1), vector()), api.ErrLimit)
		fails(t, outer(f, nums([]int{0, 0, 0, 0}), nums([]int{0, 0, 0, 0})), api.ErrLimit)
		fails(t, outer(f, told(1, 1, 64), told(1, 1, 65)), api.ErrLimit)
		fails(t, outer(f, told(1, 1, 4096), vector(1, 2)), api.ErrLimit)
		fails(t, outer(f, vector(1, 2), told(1, 1, 4096)), api.ErrLimit)
		fails(t, outer(f, told(1, 1, 4096), told(1, 1, 4096)), api.ErrLimit)
		fails(t, outer(f, told(1, 1, 17), told(1, 1, 1, 241)), api.ErrLimit)
	}
	one(t, outer(sub, told(1, 1, 64), told(1, 1, 64)))
	one(t, outer(sub, told(1, 1, 2), told(1, 1, 2048)))
	one(t, outer(sub, told(1, 1, 4096), told(1, 1, 1)))
	one(t, outer(sub, number(1), told(1, 1, 4096)))
}

// Characters equal characters of the same number, and never numbers; other functions take none.
func TestOuterOfCharacters(t *testing.T) {
	makes(t, outer(eq, text("ab", 2), text("bab", 3)), nums([]int{2, 3}, 0, 1, 0, 1, 0, 1))
	makes(t, outer(ne, text("ab", 2), text("bab", 3)), nums([]int{2, 3}, 1, 0, 1, 0, 1, 0))
	makes(t, outer(eq, text("ab", 2), vector(97, 98, 99)), nums([]int{2, 3}, 0, 0, 0, 0, 0, 0))
	makes(t, outer(ne, vector(97, 98, 99), text("ab", 2)), nums([]int{3, 2}, 1, 1, 1, 1, 1, 1))
	makes(t, outer(eq, number(97), text("a")), number(0))
	makes(t, outer(ne, text("a"), number(97)), number(1))
	makes(t, outer(eq, text("", 0), vector(1, 2)), nums([]int{0, 2}))
	makes(t, outer(ne, vector(1, 2), text("", 0)), nums([]int{2, 0}))
	for _, f := range dyadic() {
		if f == eq || f == ne {
			continue
		}
		fails(t, outer(f, text("ab", 2), text("ab", 2)), api.ErrDomain)
		fails(t, outer(f, text("ab", 2), vector(1, 0)), api.ErrDomain)
		fails(t, outer(f, vector(1, 0), text("ab", 2)), api.ErrDomain)
		fails(t, outer(f, text("", 0), vector()), api.ErrDomain)
		fails(t, outer(f, vector(), text("", 0)), api.ErrDomain)
		fails(t, outer(f, text("", 0), text("", 0)), api.ErrDomain)
		fails(t, outer(f, number(1), text("a")), api.ErrDomain)
	}
}

// The first pair that has an error tells it, by its position in the result; the shape tells none.
func TestFaultsOfOuter(t *testing.T) {
	faults(t, outer(div, vector(1), vector(0)), api.ErrZero)
	faults(t, outer(div, vector(5, least), vector(1, -1, 0)), api.ErrZero)
	faults(t, outer(div, vector(least, 5), vector(1, -1, 0)), api.ErrOverflow)
	faults(t, outer(div, vector(least, 5), vector(1, 0, -1)), api.ErrZero)
	faults(t, outer(pow, vector(1, 2, 0), vector(1, 64, -1)), api.ErrOverflow)
	faults(t, outer(pow, vector(1, 0, 2), vector(1, 64, -1)), api.ErrDomain)
	faults(t, outer(and, number(1), number(2)), api.ErrDomain)
	faults(t, outer(add, vector(1, greatest), vector(0, 1)), api.ErrOverflow)
	shape, e := fold.OuterShape(div, vector(1, 2, 3), vector(0, 0))
	want(t, "OuterShape", e, api.OK)
	if !slices.Equal(shape, []int{3, 2}) {
		t.Errorf("OuterShape: %v", shape)
	}
}

// All functions with arrays that look like chance.
func TestAnyOuter(t *testing.T) {
	r := noise(7)
	met := map[api.Errno]int{}
	for range 20000 {
		a := r.shape()
		c := outer(1+r.below(16), r.array(a[:min(len(a), r.below(3))]), r.array(r.shape()))
		one(t, c)
		_, e := c.m.array()
		met[e]++
	}
	for _, e := range []api.Errno{api.OK, api.ErrDomain, api.ErrOverflow, api.ErrZero, api.ErrLimit} {
		if met[e] < 100 {
			t.Errorf("error %d occurs %d times only", e, met[e])
		}
	}
}
