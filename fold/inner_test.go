package fold_test

import (
	"slices"
	"testing"

	"quadrat/api"
	"quadrat/fold"
)

// The chapter's examples.
func TestInner(t *testing.T) {
	makes(t, inner(add, mul, told(1, 1, 2, 2), vector(5, 6)), vector(17, 39))
	makes(t, inner(and, eq, text("ab", 2), text("ab", 2)), number(1))
	fails(t, inner(add, mul, vector(1, 2), vector(1, 2, 3)), api.ErrLength)
}

func TestInnerOfVectors(t *testing.T) {
	makes(t, inner(add, mul, vector(1, 2, 3), vector(4, 5, 6)), number(32))
	makes(t, inner(sub, mul, vector(1, 2, 3), vector(4, 5, 6)), number(12))
	makes(t, inner(add, sub, vector(1, 2, 3), vector(6, 4, 5)), number(-9))
	makes(t, inner(maximum, sub, vector(1, 2, 3), vector(6, 4, 5)), number(-2))
	makes(t, inner(sub, add, vector(1, 2), vector(3, 5)), number(-3))
	makes(t, inner(add, mul, vector(7), vector(8)), number(56))
	makes(t, inner(or, gt, vector(1, 2), vector(1, 2)), number(0))
}

// A row of the first array goes with a column of the second one.
func TestInnerOfMatrices(t *testing.T) {
	a, b := told(1, 1, 2, 3), told(1, 1, 3, 2)
	makes(t, inner(add, mul, a, vector(1, 0, 2)), vector(7, 16))
	makes(t, inner(add, mul, vector(1, 2), a), vector(9, 12, 15))
	makes(t, inner(add, mul, a, b), nums([]int{2, 2}, 22, 28, 49, 64))
	makes(t, inner(add, mul, b, a), nums([]int{3, 3}, 9, 12, 15, 19, 26, 33, 29, 40, 51))
	makes(t, inner(sub, sub, a, b), nums([]int{2, 2}, 1-1-(2-3)+(3-5), 1-2-(2-4)+(3-6), 4-1-(5-3)+(6-5), 4-2-(5-4)+(6-6)))
	makes(t, inner(minimum, sub, a, b), nums([]int{2, 2}, -2, -3, 1, 0))
	makes(t, inner(add, mul, told(1, 1, 3, 1), told(1, 1, 1, 2)), nums([]int{3, 2}, 1, 2, 2, 4, 3, 6))
	makes(t, inner(add, mul, told(1, 1, 1, 3), told(1, 1, 3, 1)), nums([]int{1, 1}, 14))
}

func TestInnerOfMoreAxes(t *testing.T) {
	a := told(1, 1, 2, 2, 2)
	makes(t, inner(add, mul, a, vector(1, 10)), nums([]int{2, 2}, 21, 43, 65, 87))
	makes(t, inner(add, mul, vector(1, 10), a), nums([]int{2, 2}, 51, 62, 73, 84))
	makes(t, inner(add, mul, a, nums([]int{2, 2}, 1, 0, 0, 1)), a)
	makes(t, inner(add, mul, nums([]int{2, 2}, 0, 1, 1, 0), a), nums([]int{2, 2, 2}, 5, 6, 7, 8, 1, 2, 3, 4))
	makes(t, inner(add, sub, a, a), nums([]int{2, 2, 2, 2}, -3, -5, -7, -9, 1, -1, -3, -5, 5, 3, 1, -1, 9, 7, 5, 3))
	makes(t, inner(add, mul, told(1, 1, 1, 2, 1, 2), vector(1, 1)), nums([]int{1, 2, 1}, 3, 7))
	makes(t, inner(add, mul, vector(1, 1), told(1, 1, 2, 1, 2, 1)), nums([]int{1, 2, 1}, 4, 6))
	one(t, inner(sub, sub, told(1, 1, 2, 3, 1, 2), told(1, 1, 2, 3)))
	one(t, inner(sub, sub, told(1, 1, 3, 2), told(1, 1, 2, 2, 1, 3)))
}

// A scalar has as many copies as the other array's axis is long, and one with another scalar.
func TestInnerOfScalars(t *testing.T) {
	makes(t, inner(add, mul, number(2), number(3)), number(6))
	makes(t, inner(sub, sub, number(2), nums([]int{}, 3)), number(-1))
	makes(t, inner(and, add, number(2), number(3)), number(5))
	makes(t, inner(add, mul, number(2), vector(1, 2, 3)), number(12))
	makes(t, inner(add, mul, vector(1, 2, 3), number(2)), number(12))
	makes(t, inner(add, sub, number(2), vector(1, 2, 3)), number(0))
	makes(t, inner(sub, sub, vector(1, 2, 3), number(5)), number(-3))
	makes(t, inner(add, mul, told(1, 1, 2, 3), number(2)), vector(12, 30))
	makes(t, inner(add, mul, number(2), told(1, 1, 2, 3)), vector(10, 14, 18))
	makes(t, inner(add, sub, number(10), told(1, 1, 2, 2, 2)), nums([]int{2, 2}, 14, 12, 10, 8))
	makes(t, inner(add, sub, told(1, 1, 2, 2, 2), number(10)), nums([]int{2, 2}, -17, -13, -9, -5))
	makes(t, inner(add, mul, number(2), told(1, 1, 2, 1, 2, 1)), nums([]int{1, 2, 1}, 8, 12))
	makes(t, inner(add, eq, text("a"), text("abaa", 4)), number(3))
	makes(t, inner(add, eq, text("abaa", 2, 2), text("a")), vector(1, 2))
	makes(t, inner(add, eq, text("a"), text("a")), number(1))
	fails(t, inner(add, mul, vector(1, 2, 3), vector(2)), api.ErrLength)
	one(t, inner(add, mul, number(2), told(1, 1, 4096)))
	one(t, inner(add, mul, told(1, 1, 4096), number(-2)))
}

// How many pairs stand behind each element, whatever the shape is.
func TestInnerShape(t *testing.T) {
	for _, c := range []struct {
		a, b  api.Array
		shape []int
		long  int
	}{
		{number(1), number(2), nil, 1}, {number(1), vector(1, 2, 3), nil, 3}, {vector(1, 2, 3), number(1), nil, 3}, {vector(1, 2), vector(3, 4), nil, 2}, {vector(), vector(), nil, 0},
		{number(1), vector(), nil, 0}, {vector(), number(1), nil, 0}, {number(1), nums([]int{0, 3}), []int{3}, 0}, {number(1), nums([]int{3, 0}), []int{0}, 3}, {nums([]int{0, 3}), number(1), []int{0}, 3}, {nums([]int{3, 0}), number(1), []int{3}, 0},
		{told(1, 1, 2, 3), told(1, 1, 3, 4), []int{2, 4}, 3}, {told(1, 1, 2, 3, 4), told(1, 1, 4, 5), []int{2, 3, 5}, 4}, {told(1, 1, 5, 2), told(1, 1, 2, 3, 4), []int{5, 3, 4}, 2},
		{told(1, 1, 2, 3, 2), told(1, 1, 2, 3, 2), []int{2, 3, 3, 2}, 2}, {told(1, 1, 2, 1, 2, 3), vector(1, 2, 3), []int{2, 1, 2}, 3}, {nums([]int{2, 0}), nums([]int{0, 3}), []int{2, 3}, 0}, {told(1, 1, 64, 64), told(1, 1, 64, 64), []int{64, 64}, 64},
	} {
		shape, long, e := fold.InnerShape(div, div, c.a, c.b)
		want(t, "InnerShape of "+both(c.a, c.b), e, api.OK)
		if !slices.Equal(shape, c.shape) || long != c.long {
			t.Errorf("InnerShape of %s: %v and %d, want %v and %d", both(c.a, c.b), shape, long, c.shape, c.long)
		}
	}
}

// Where pairs are none, the fold is the identity of the first function, whatever the second one is.
func TestInnerOfNoPairs(t *testing.T) {
	for _, f := range dyadic() {
		x := identityOf(f)
		for _, g := range []int{mul, div, pow, eq, and} {
			makes(t, inner(f, g, vector(), vector()), number(x))
			makes(t, inner(f, g, number(0), vector()), number(x))
			makes(t, inner(f, g, vector(), number(0)), number(x))
			makes(t, inner(f, g, nums([]int{2, 0}), nums([]int{0, 3})), nums([]int{2, 3}, x, x, x, x, x, x))
			makes(t, inner(f, g, nums([]int{3, 0}), number(0)), vector(x, x, x))
			makes(t, inner(f, g, number(0), nums([]int{0, 3})), vector(x, x, x))
			makes(t, inner(f, g, nums([]int{2, 1, 0}), vector()), nums([]int{2, 1}, x, x))
		}
		makes(t, inner(f, eq, text("", 0), vector()), number(x))
		makes(t, inner(f, ne, number(1), chars([]int{0, 2})), vector(x, x))
	}
}

// Where the result has no elements, there are no errors of them.
func TestInnerOfNoElements(t *testing.T) {
	makes(t, inner(add, div, nums([]int{0, 2}), vector(0, 0)), vector())
	makes(t, inner(add, div, vector(1, 2), nums([]int{2, 0})), vector())
	makes(t, inner(add, div, number(1), nums([]int{2, 0})), vector())
	makes(t, inner(add, div, nums([]int{0, 2}), number(0)), vector())
	makes(t, inner(add, div, nums([]int{0, 2}), nums([]int{2, 0})), nums([]int{0, 0}))
	makes(t, inner(add, div, nums([]int{0, 2}), told(1, 0, 2, 3)), nums([]int{0, 3}))
	makes(t, inner(add, div, told(1, 0, 3, 2), nums([]int{2, 0})), nums([]int{3, 0}))
	makes(t, inner(add, div, nums([]int{0, 4096}), nums([]int{4096, 0, 4096, 4096})), api.Array{Kind: 1, Shape: []int{0, 0, 4096, 4096}})
	makes(t, inner(add, div, nums([]int{0, 0}), nums([]int{0, 4096, 4096})), nums([]int{0, 4096, 4096}))
	makes(t, inner(add, div, nums([]int{4096, 4096, 0}), nums([]int{0, 0})), nums([]int{4096, 4096, 0}))
	makes(t, inner(add, div, number(0), nums([]int{0, 4096, 4096, 0})), nums([]int{4096, 4096, 0}))
}

// The axes that go together are equally long, also if they have no length or one element.
func TestInnerOfOtherLengths(t *testing.T) {
	for _, l := range [][2][]int{
		{{2}, {3}}, {{3}, {2}}, {{1}, {2}}, {{2}, {1}}, {{0}, {1}}, {{1}, {0}}, {{2, 3}, {2, 3}}, {{3, 2}, {3}}, {{3}, {2, 3}}, {{2, 3}, {2}}, {{0, 3}, {0}}, {{3, 0}, {3}},
		{{2, 3, 4}, {3, 4}}, {{2, 3, 4}, {2}}, {{2}, {3, 2}}, {{1, 1, 1, 1}, {2, 1, 1, 1}}, {{4096}, {4095}}, {{0}, {4096}},
	} {
		fails(t, inner(add, mul, told(1, 1, l[0]...), told(1, 1, l[1]...)), api.ErrLength)
	}
}

// Too many axes, and too many elements: also those of empty rows.
func TestInnerThatIsTooGreat(t *testing.T) {
	for _, l := range [][2][]int{
		{{1, 1, 1, 1}, {1, 1, 1}}, {{1, 1, 1}, {1, 1, 1, 1}}, {{1, 1, 1, 1}, {1, 1, 1, 1}}, {{0, 0, 0, 0}, {0, 0, 0, 0}}, {{2, 1, 1, 0}, {0, 1, 1}},
		{{65, 1}, {1, 64}}, {{64, 2}, {2, 65}}, {{4096, 1}, {1, 2}}, {{4096, 0}, {0, 2}}, {{2, 0}, {0, 4096}}, {{64, 64, 0}, {0, 2}}, {{17, 0}, {0, 241}},
	} {
		fails(t, inner(add, mul, told(1, 1, l[0]...), told(1, 1, l[1]...)), api.ErrLimit)
	}
	fails(t, inner(add, mul, nums([]int{4096, 2, 0}), number(1)), api.ErrLimit)
	fails(t, inner(add, mul, number(1), nums([]int{0, 4096, 2})), api.ErrLimit)
	fails(t, inner(add, mul, nums([]int{4096, 4096, 4096, 0}), number(1)), api.ErrLimit)
	one(t, inner(add, mul, told(1, 1, 64, 3), told(1, 1, 3, 64)))
	one(t, inner(sub, mul, told(1, 1, 4096, 1), told(1, 1, 1, 1)))
	one(t, inner(sub, sub, told(1, 1, 64, 64), told(1, 1, 64, 64)))
	one(t, inner(sub, sub, told(1, 1, 1, 4096), told(1, 1, 4096, 1)))
	one(t, inner(add, mul, nums([]int{64, 0}), nums([]int{0, 64})))
}

// The second function says which kinds it takes; the first one has to do with its results alone.
func TestInnerOfCharacters(t *testing.T) {
	makes(t, inner(and, eq, text("abc", 3), text("abd", 3)), number(0))
	makes(t, inner(or, ne, text("abc", 3), text("abd", 3)), number(1))
	makes(t, inner(add, eq, text("abcabd", 2, 3), text("abd", 3)), vector(2, 3))
	makes(t, inner(and, eq, text("abcd", 2, 2), text("acbd", 2, 2)), nums([]int{2, 2}, 1, 0, 0, 1))
	makes(t, inner(add, eq, text("ab", 2), vector(97, 98)), number(0))
	makes(t, inner(add, ne, vector(97, 98), text("ab", 2)), number(2))
	makes(t, inner(mul, ne, text("a"), vector(97, 98)), number(1))
	makes(t, inner(sub, eq, number(97), text("ab", 2)), number(0))
	for _, g := range dyadic() {
		if g == eq || g == ne {
			continue
		}
		for _, f := range []int{add, eq, ne} {
			fails(t, inner(f, g, text("ab", 2), text("ab", 2)), api.ErrDomain)
			fails(t, inner(f, g, text("ab", 2), vector(1, 2)), api.ErrDomain)
			fails(t, inner(f, g, vector(1, 2), text("ab", 2)), api.ErrDomain)
			fails(t, inner(f, g, text("a"), number(1)), api.ErrDomain)
			fails(t, inner(f, g, number(1), text("ab", 2)), api.ErrDomain)
			fails(t, inner(f, g, text("", 0), vector()), api.ErrDomain)
			fails(t, inner(f, g, nums([]int{0, 2}), chars([]int{2, 0})), api.ErrDomain)
		}
	}
}

// All errors of the second function stand ahead of those of folding, but only those of the same element.
func TestFaultsOfInner(t *testing.T) {
	faults(t, inner(add, div, vector(greatest, greatest, 1), vector(1, 1, 0)), api.ErrZero)
	faults(t, inner(add, div, vector(1, greatest, greatest), vector(0, 1, 1)), api.ErrZero)
	faults(t, inner(add, div, vector(1, greatest, greatest), vector(1, 1, 1)), api.ErrOverflow)
	faults(t, inner(and, pow, vector(2, 3, 10), vector(1, 1, 100)), api.ErrOverflow)
	faults(t, inner(and, pow, vector(10, 0, 3), vector(100, -1, 1)), api.ErrOverflow)
	faults(t, inner(and, pow, vector(0, 10, 3), vector(-1, 100, 1)), api.ErrDomain)
	faults(t, inner(and, pow, vector(2, 3, 4), vector(1, 1, 1)), api.ErrDomain)
	faults(t, inner(add, div, nums([]int{2, 2}, greatest, greatest, 1, 1), nums([]int{2, 2}, 1, 1, 1, 0)), api.ErrOverflow)
	faults(t, inner(add, div, nums([]int{2, 2}, 1, 1, greatest, greatest), nums([]int{2, 2}, 1, 1, 1, 0)), api.ErrZero)
	faults(t, inner(add, div, number(1), vector(1, 0)), api.ErrZero)
	faults(t, inner(div, sub, vector(7, 5), number(5)), api.ErrZero)
	faults(t, inner(add, mul, number(greatest), number(2)), api.ErrOverflow)
	faults(t, inner(add, sub, vector(0, 2, greatest), vector(1, 1, 0)), api.ErrOverflow)
	makes(t, inner(add, sub, vector(greatest, 2, 0), vector(0, 1, 1)), number(greatest))
}

// All functions with arrays that look like chance, most of whose axes are equally long.
func TestAnyInner(t *testing.T) {
	r := noise(9)
	met := map[api.Errno]int{}
	for range 20000 {
		a, b := r.shape(), r.shape()
		if len(a) > 0 && len(b) > 0 && r.below(10) > 0 {
			b[0] = a[len(a)-1]
		}
		c := inner(1+r.below(16), 1+r.below(16), r.array(a), r.array(b))
		one(t, c)
		_, e := c.m.array()
		met[e]++
	}
	for _, e := range []api.Errno{api.OK, api.ErrLength, api.ErrDomain, api.ErrOverflow, api.ErrZero, api.ErrLimit} {
		if met[e] < 300 {
			t.Errorf("error %d occurs %d times only", e, met[e])
		}
	}
}
