package fold_test

import (
	"testing"

	"quadrat/api"
	"quadrat/fold"
)

// The chapter's examples.
func TestReduceAndScan(t *testing.T) {
	makes(t, reduce(minimum, vector()), number(greatest))
	makes(t, scan(sub, vector(1, 2, 3)), vector(1, -1, 2))
}

// The one row of a scalar is its element, also where the function takes no such one.
func TestFoldsOfAScalar(t *testing.T) {
	for _, f := range dyadic() {
		for _, n := range []int64{0, 1, 7, -1, least, greatest} {
			makes(t, reduce(f, number(n)), number(n))
			makes(t, scan(f, number(n)), number(n))
			makes(t, reduce(f, nums([]int{}, n)), number(n))
			makes(t, scan(f, nums([]int{}, n)), number(n))
		}
	}
}

func TestFoldsOfAVector(t *testing.T) {
	makes(t, reduce(add, vector(1, 2, 3)), number(6))
	makes(t, scan(add, vector(1, 2, 3)), vector(1, 3, 6))
	makes(t, reduce(sub, vector(1, 2, 3, 4)), number(-2))
	makes(t, scan(sub, vector(1, 2, 3, 4)), vector(1, -1, 2, -2))
	makes(t, reduce(mul, vector(5)), number(5))
	makes(t, scan(mul, vector(5)), vector(5))
	makes(t, reduce(div, vector(100, 10, 2)), number(20))
	makes(t, scan(div, vector(100, 10, 2)), vector(100, 10, 20))
	makes(t, reduce(rem, vector(5, 7, 15)), number(1))
	makes(t, scan(rem, vector(5, 7, 15)), vector(5, 2, 1))
	makes(t, scan(minimum, vector(3, 5, 2, 9)), vector(3, 3, 2, 2))
	makes(t, scan(maximum, vector(3, 5, 2, 9)), vector(3, 5, 5, 9))
	makes(t, reduce(pow, vector(2, 3, 2)), number(512))
	makes(t, scan(pow, vector(2, 3, 2)), vector(2, 8, 512))
	makes(t, scan(eq, vector(0, 2, 3)), vector(0, 0, 1))
	makes(t, scan(ne, vector(1, 1, 1, 1)), vector(1, 0, 1, 0))
	makes(t, scan(lt, vector(0, 0, 1, 1, 0)), vector(0, 0, 1, 0, 0))
	makes(t, scan(le, vector(5, 2, 3)), vector(5, 0, 0))
	makes(t, scan(ge, vector(1, 2, 1)), vector(1, 0, 1))
	makes(t, scan(gt, vector(2, 2, 1)), vector(2, 0, 1))
	makes(t, reduce(and, vector(1, 1, 0)), number(0))
	makes(t, scan(and, vector(1, 1, 0, 1)), vector(1, 1, 0, 0))
	makes(t, scan(or, vector(0, 0, 1, 0)), vector(0, 0, 1, 1))
	makes(t, reduce(add, vector(greatest, 1, -1)), number(greatest))
}

func TestFoldsOfAMatrix(t *testing.T) {
	a := told(1, 1, 2, 3)
	makes(t, reduce(add, a), vector(6, 15))
	makes(t, reduce(sub, a), vector(2, 5))
	makes(t, reduce(maximum, a), vector(3, 6))
	makes(t, scan(add, a), nums([]int{2, 3}, 1, 3, 6, 4, 9, 15))
	makes(t, scan(sub, a), nums([]int{2, 3}, 1, -1, 2, 4, -1, 5))
	makes(t, reduce(add, told(1, 1, 3, 1)), vector(1, 2, 3))
	makes(t, scan(add, told(1, 1, 3, 1)), told(1, 1, 3, 1))
	makes(t, reduce(add, told(1, 1, 1, 3)), vector(6))
	makes(t, scan(add, told(1, 1, 1, 3)), nums([]int{1, 3}, 1, 3, 6))
	makes(t, reduce(mul, told(1, 1, 1, 1)), vector(1))
}

func TestFoldsOfMoreAxes(t *testing.T) {
	a := told(1, 1, 2, 2, 3)
	makes(t, reduce(add, a), nums([]int{2, 2}, 6, 15, 24, 33))
	makes(t, scan(add, a), nums([]int{2, 2, 3}, 1, 3, 6, 4, 9, 15, 7, 15, 24, 10, 21, 33))
	makes(t, reduce(sub, a), nums([]int{2, 2}, 2, 5, 8, 11))
	b := told(1, 1, 2, 1, 2, 2)
	makes(t, reduce(add, b), nums([]int{2, 1, 2}, 3, 7, 11, 15))
	makes(t, scan(sub, b), nums([]int{2, 1, 2, 2}, 1, -1, 3, -1, 5, -1, 7, -1))
	makes(t, reduce(mul, told(1, 5, 1, 1, 1, 1)), nums([]int{1, 1, 1}, 5))
	makes(t, scan(mul, told(1, 5, 1, 1, 1, 1)), told(1, 5, 1, 1, 1, 1))
}

// The fold of an empty row is the identity; a scan of empty rows has no elements.
func TestFoldsOfEmptyRows(t *testing.T) {
	for _, f := range dyadic() {
		x := identityOf(f)
		makes(t, reduce(f, vector()), number(x))
		makes(t, scan(f, vector()), vector())
		makes(t, reduce(f, nums([]int{3, 0})), vector(x, x, x))
		makes(t, scan(f, nums([]int{3, 0})), nums([]int{3, 0}))
		makes(t, reduce(f, nums([]int{1, 2, 0})), nums([]int{1, 2}, x, x))
		makes(t, reduce(f, nums([]int{2, 1, 2, 0})), nums([]int{2, 1, 2}, x, x, x, x))
		makes(t, scan(f, nums([]int{2, 1, 2, 0})), nums([]int{2, 1, 2, 0}))
	}
}

// Where there are no rows, there are no folds, however long the rows would be.
func TestFoldsOfNoRows(t *testing.T) {
	for _, f := range dyadic() {
		for _, shape := range [][]int{{0, 0}, {0, 3}, {0, 4096}, {0, 2, 2}, {2, 0, 2}, {0, 4096, 4096}, {2, 0, 0}, {0, 1, 2, 3}, {2, 2, 0, 2}, {4096, 0, 4096, 4096}, {0, 0, 0, 0}} {
			makes(t, reduce(f, nums(shape)), nums(shape[:len(shape)-1]))
			makes(t, scan(f, nums(shape)), nums(shape))
		}
	}
}

// Empty rows may be more than an array has elements; a scan of them has none.
func TestTooManyEmptyRows(t *testing.T) {
	for _, f := range dyadic() {
		for _, shape := range [][]int{{4096, 2, 0}, {65, 64, 0}, {17, 241, 0}, {4096, 4096, 0}, {2, 4096, 1, 0}, {4096, 4096, 4096, 0}} {
			fails(t, reduce(f, nums(shape)), api.ErrLimit)
			makes(t, scan(f, nums(shape)), nums(shape))
		}
	}
	makes(t, reduce(add, nums([]int{4096, 0})), nums([]int{4096}, make([]int64, 4096)...))
	makes(t, reduce(add, nums([]int{64, 64, 0})), nums([]int{64, 64}, make([]int64, 4096)...))
	makes(t, reduce(add, nums([]int{4096, 4096, 0, 0})), nums([]int{4096, 4096, 0}))
}

// Characters are not folded: not one, not none, and not in too many rows.
func TestFoldsOfCharacters(t *testing.T) {
	for _, f := range dyadic() {
		for _, a := range []api.Array{text("a"), text("", 0), text("a", 1), text("ab", 2), text("abcdef", 2, 3), chars([]int{0, 3}), chars([]int{3, 0}), chars([]int{4096, 4096, 0}), chars([]int{1}, 1), chars([]int{2}, 0, 1)} {
			fails(t, reduce(f, a), api.ErrDomain)
			fails(t, scan(f, a), api.ErrDomain)
		}
	}
}

// The first row that has an error tells it, and a row's error is the first one in the order of folding.
func TestFaultsOfReduce(t *testing.T) {
	faults(t, reduce(div, nums([]int{2, 2}, 5, 0, least, -1)), api.ErrZero)
	faults(t, reduce(div, nums([]int{2, 2}, least, -1, 5, 0)), api.ErrOverflow)
	faults(t, reduce(div, nums([]int{3, 2}, 5, 1, least, -1, 5, 0)), api.ErrOverflow)
	faults(t, reduce(div, vector(5, 0, least, -1)), api.ErrOverflow)
	faults(t, reduce(pow, nums([]int{2, 1, 2}, 0, -1, 10, 100)), api.ErrDomain)
	faults(t, reduce(pow, nums([]int{2, 1, 2}, 10, 100, 0, -1)), api.ErrOverflow)
	faults(t, reduce(pow, vector(10, 100, 0, -1)), api.ErrDomain)
	faults(t, reduce(add, vector(-1, 1, greatest)), api.ErrOverflow)
	faults(t, reduce(or, vector(0, 0, 2)), api.ErrDomain)
	makes(t, reduce(or, nums([]int{2, 1}, 3, 2)), vector(3, 2))
}

// A scan's first error is in the least beginning of a row that has one, even if the whole row has none.
func TestFaultsOfScan(t *testing.T) {
	faults(t, scan(add, vector(greatest, 1, -1)), api.ErrOverflow)
	faults(t, scan(div, vector(7, 0, 1)), api.ErrZero)
	faults(t, scan(pow, vector(2, 64, 0)), api.ErrOverflow)
	faults(t, scan(pow, vector(10, 100, 0, -1)), api.ErrOverflow)
	faults(t, scan(pow, vector(0, -1, 10, 100)), api.ErrDomain)
	faults(t, scan(div, vector(5, 0, least, -1)), api.ErrZero)
	faults(t, scan(div, vector(least, -1, 5, 0)), api.ErrOverflow)
	faults(t, scan(div, nums([]int{2, 2}, 5, 0, least, -1)), api.ErrZero)
	faults(t, scan(div, nums([]int{3, 2}, 5, 1, least, -1, 5, 0)), api.ErrOverflow)
	faults(t, scan(add, nums([]int{2, 1, 2}, 1, 2, greatest, 1)), api.ErrOverflow)
	faults(t, scan(and, vector(1, 1, 2)), api.ErrDomain)
	makes(t, scan(and, nums([]int{2, 1}, 2, 3)), nums([]int{2, 1}, 2, 3))
	makes(t, scan(mul, vector(greatest, 0, greatest)), vector(greatest, 0, 0))
	faults(t, scan(div, vector(0, 1, 2)), api.ErrZero)
}

// The greatest rows, and the most rows, that there are.
func TestGreatFolds(t *testing.T) {
	for _, shape := range [][]int{{4096}, {1, 4096}, {4096, 1}, {64, 64}, {16, 16, 16}, {8, 8, 8, 8}} {
		for _, f := range []int{add, sub, maximum, lt} {
			one(t, reduce(f, told(1, 1, shape...)))
		}
		if len(shape) > 1 {
			one(t, scan(sub, told(1, 1, shape...)))
		}
	}
	sums := vector()
	sums.Shape = []int{4096}
	for n := range int64(4096) {
		sums.Elems = append(sums.Elems, (n+1)*(n+2)/2)
	}
	got, e := fold.Scan(add, told(1, 1, 4096))
	want(t, "Scan of a great row", e, api.OK)
	is(t, "Scan of a great row", got, sums)
}

// All functions with arrays that look like chance.
func TestAnyFolds(t *testing.T) {
	r := noise(5)
	met := map[api.Errno]int{}
	for range 20000 {
		f, a := 1+r.below(16), r.array(r.shape())
		for _, c := range []call{reduce(f, a), scan(f, a)} {
			one(t, c)
			_, e := c.m.array()
			met[e]++
		}
	}
	for _, e := range []api.Errno{api.OK, api.ErrDomain, api.ErrOverflow, api.ErrZero} {
		if met[e] < 300 {
			t.Errorf("error %d occurs %d times only", e, met[e])
		}
	}
}
