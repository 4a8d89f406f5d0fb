package fold_test

import (
	"fmt"
	"slices"
	"testing"

	"quadrat/api"
	"quadrat/fold"
)

// folds fails unless a row has that fold, as the model does.
func folds(t *testing.T, f int, asked int64, l ...int64) {
	t.Helper()
	got, e := fold.Row(f, l)
	if got != asked || e != api.OK {
		t.Errorf("Row of %d and %v: %d, error %d, want %d", f, l, got, e, asked)
	}
	asModel(t, f, l)
}

// foldFails fails unless a row has that error in place of a fold, as the model does.
func foldFails(t *testing.T, f int, asked api.Errno, l ...int64) {
	t.Helper()
	got, e := fold.Row(f, l)
	if got != 0 || e != asked {
		t.Errorf("Row of %d and %v: %d, error %d, want error %d", f, l, got, e, asked)
	}
	asModel(t, f, l)
}

// asModel fails unless a row of a dyadic function has the fold, or the error, that the model has.
func asModel(t *testing.T, f int, l []int64) {
	t.Helper()
	got, e := fold.Row(f, l)
	asked, fault := foldOf(f, l)
	if got != asked || e != fault {
		t.Errorf("Row of %d and %v: %d, error %d, want %d, error %d", f, l, got, e, asked, fault)
	}
}

// The chapter's examples.
func TestRow(t *testing.T) {
	folds(t, sub, 2, 1, 2, 3)
	folds(t, add, greatest, greatest, 1, -1)
	foldFails(t, add, api.ErrOverflow, -1, 1, greatest)
}

// The fold of no numbers is the function's identity.
func TestRowOfNone(t *testing.T) {
	for f, asked := range map[int]int64{add: 0, sub: 0, mul: 1, div: 1, rem: 0, minimum: greatest, maximum: least, pow: 1, eq: 1, ne: 0, lt: 0, le: 1, ge: 1, gt: 0, and: 1, or: 0} {
		folds(t, f, asked)
		folds(t, f, asked, []int64{}...)
	}
}

// The fold of one number is the number, also where the function takes no such one.
func TestRowOfOne(t *testing.T) {
	for _, f := range dyadic() {
		for _, n := range []int64{0, 1, -1, 2, 7, least, greatest, 1 << 40} {
			folds(t, f, n, n)
		}
	}
}

// Each function, of two numbers and of more, from the last one on.
func TestRowOfMore(t *testing.T) {
	folds(t, add, 15, 1, 2, 3, 4, 5)
	folds(t, sub, 3, 1, 2, 3, 4, 5)
	folds(t, sub, -1, 1, 2)
	folds(t, mul, -120, 1, 2, 3, 4, -5)
	folds(t, div, 20, 100, 10, 2)
	folds(t, div, -4, -7, 2)
	folds(t, rem, 1, 5, 7, 15)
	folds(t, rem, 2, 3, 8)
	folds(t, minimum, -3, 4, -3, 9)
	folds(t, maximum, 9, 4, -3, 9)
	folds(t, pow, 512, 2, 3, 2)
	folds(t, pow, 9, 3, 2)
	folds(t, eq, 1, 0, 2, 3)
	folds(t, eq, 0, 2, 3, 3)
	folds(t, ne, 1, 0, 2, 3)
	folds(t, lt, 1, 0, 2, 3)
	folds(t, lt, 0, 3, 2, 1)
	folds(t, le, 1, 1, 2, 3)
	folds(t, le, 0, 5, 2, 3)
	folds(t, ge, 0, 0, 2, 1)
	folds(t, ge, 1, 5, 2, 1)
	folds(t, gt, 0, 1, 2, 1)
	folds(t, gt, 1, 2, 2, 1)
	folds(t, and, 1, 1, 1, 1)
	folds(t, and, 0, 1, 0, 1)
	folds(t, or, 1, 0, 1, 0)
	folds(t, or, 0, 0, 0, 0)
}

// A row whose fold fits from the last number on does so even if none from the first one on does, and the other way round.
func TestTheOrderOfFolding(t *testing.T) {
	folds(t, add, greatest, greatest, 1, -1)
	foldFails(t, add, api.ErrOverflow, -1, 1, greatest)
	folds(t, add, least, least, -1, 1)
	foldFails(t, add, api.ErrOverflow, 1, -1, least)
	folds(t, mul, 0, greatest, 2, 0)
	foldFails(t, mul, api.ErrOverflow, 0, 2, greatest)
	folds(t, sub, least+1, least, 1, 2)
	foldFails(t, sub, api.ErrOverflow, 0, 0, least)
	folds(t, pow, 2, 2, 64, 0)
	foldFails(t, pow, api.ErrOverflow, 0, 2, 64)
	folds(t, div, 0, 0, 7, 3)
	foldFails(t, div, api.ErrZero, 7, 3, 0)
	foldFails(t, div, api.ErrZero, 3, 3, 7)
	folds(t, and, 0, 0, 0, 1)
	foldFails(t, and, api.ErrDomain, 0, 2, 1)
	folds(t, and, 1, 1, 1)
	foldFails(t, and, api.ErrDomain, 0, 1, 2)
}

// Of two errors, that one counts which the folding comes to first, which is the one nearer to the end.
func TestRowsOfTwoErrors(t *testing.T) {
	foldFails(t, pow, api.ErrDomain, 10, 100, 0, -1)
	foldFails(t, pow, api.ErrOverflow, 0, -1, 10, 100)
	foldFails(t, div, api.ErrOverflow, 5, 0, least, -1)
	foldFails(t, div, api.ErrZero, least, -1, 5, 0)
	foldFails(t, pow, api.ErrDomain, 2, 64, 2, -1)
	foldFails(t, pow, api.ErrOverflow, 2, -1, 2, 64)
}

// Behind an error there is no other one, and no number: not even where the numbers ahead of it would make one of anything.
func TestAnErrorEndsAFold(t *testing.T) {
	foldFails(t, mul, api.ErrOverflow, 0, greatest, greatest)
	foldFails(t, div, api.ErrZero, 1, 5, 5, 0)
	foldFails(t, pow, api.ErrDomain, 1, 0, -1)
	foldFails(t, or, api.ErrDomain, 1, 1, 2)
	foldFails(t, and, api.ErrDomain, 2, 1, 1)
	foldFails(t, add, api.ErrOverflow, -5, 1, greatest)
}

// A row may be longer than any axis is.
func TestLongRows(t *testing.T) {
	folds(t, add, 4096*4097/2, many(1, 4096)...)
	folds(t, sub, -2048, many(1, 4096)...)
	folds(t, add, 5000*5001/2, many(1, 5000)...)
	folds(t, maximum, 100000, many(1, 100000)...)
	folds(t, sub, 50001, many(1, 100001)...)
	foldFails(t, mul, api.ErrOverflow, many(1, 100001)...)
}

// A function that is not dyadic tells so, whatever the row is.
func TestRowOfNoFunction(t *testing.T) {
	for _, f := range noFunctions() {
		for _, l := range [][]int64{nil, {}, {0}, {7}, {1, 0}, {0, 1}, {1, 2, 3}, {greatest, greatest}} {
			got, e := fold.Row(f, l)
			if got != 0 || e != api.ErrArg {
				t.Errorf("Row of %d and %v: %d, error %d", f, l, got, e)
			}
		}
	}
}

// Each function with all rows of few numbers, and with rows that look like chance.
func TestRowsOfEachFunction(t *testing.T) {
	some := []int64{0, 1, -1, 2, 3, -2, 63, greatest, least}
	met := map[api.Errno]int{}
	r := noise(3)
	for _, f := range dyadic() {
		for _, x := range some {
			for _, y := range some {
				asModel(t, f, []int64{x, y})
				for _, z := range some {
					asModel(t, f, []int64{x, y, z})
				}
			}
		}
		for range 3000 {
			l := r.numbers(r.below(9))
			asModel(t, f, l)
			_, e := fold.Row(f, l)
			met[e]++
		}
	}
	for _, e := range []api.Errno{api.OK, api.ErrOverflow, api.ErrZero, api.ErrDomain} {
		if met[e] < 100 {
			t.Errorf("error %d occurs %d times only", e, met[e])
		}
	}
}

// Rows are as many as the other axes have index tuples, and as long as the last one is.
func TestRows(t *testing.T) {
	for _, c := range []struct {
		shape      []int
		many, long int
	}{
		{nil, 1, 1}, {[]int{}, 1, 1},
		{[]int{0}, 1, 0}, {[]int{1}, 1, 1}, {[]int{3}, 1, 3}, {[]int{4096}, 1, 4096},
		{[]int{2, 3}, 2, 3}, {[]int{3, 2}, 3, 2}, {[]int{1, 4}, 1, 4}, {[]int{4, 1}, 4, 1}, {[]int{64, 64}, 64, 64}, {[]int{4096, 1}, 4096, 1},
		{[]int{0, 0}, 0, 0}, {[]int{0, 3}, 0, 3}, {[]int{3, 0}, 3, 0}, {[]int{4096, 0}, 4096, 0}, {[]int{0, 4096}, 0, 4096},
		{[]int{2, 3, 4}, 6, 4}, {[]int{0, 3, 4}, 0, 4}, {[]int{2, 0, 4}, 0, 4}, {[]int{2, 3, 0}, 6, 0}, {[]int{4096, 4096, 0}, 4096 * 4096, 0}, {[]int{16, 16, 16}, 256, 16},
		{[]int{2, 3, 4, 5}, 24, 5}, {[]int{2, 3, 0, 5}, 0, 5}, {[]int{2, 3, 4, 0}, 24, 0}, {[]int{4096, 4096, 4096, 0}, 1 << 36, 0}, {[]int{0, 4096, 4096, 4096}, 0, 4096},
	} {
		many, long := fold.Rows(c.shape)
		if many != c.many || long != c.long {
			t.Errorf("Rows of %v: %d and %d, want %d and %d", c.shape, many, long, c.many, c.long)
		}
	}
	for _, shape := range badShapes() {
		many, long := fold.Rows(shape)
		if many != 0 || long != 0 {
			t.Errorf("Rows of %v: %d and %d, want none", shape, many, long)
		}
	}
}

// Rows, each so long, are all elements.
func TestRowsAreAllElements(t *testing.T) {
	for _, shape := range goodShapes() {
		many, long := fold.Rows(shape)
		if many*long != countOf(shape) || len(shape) > 0 && long != shape[len(shape)-1] {
			t.Errorf("Rows of %v: %d and %d", shape, many, long)
		}
	}
}

// A row and a shape are only read.
func TestRowOnlyReads(t *testing.T) {
	for _, f := range append(dyadic(), noFunctions()...) {
		for _, l := range [][]int64{nil, {5}, {1, 0}, {1, 2, 3}, {greatest, 1, -1}, {0, 0, 0}, {-1, 1, greatest}} {
			row := roomy(l...)
			n, e := fold.Row(f, row)
			intact(t, fmt.Sprint("Row of ", f), row, l)
			m, fault := fold.Row(f, slices.Clone(l))
			if n != m || e != fault {
				t.Errorf("Row of %d and %v: %d, error %d, and then %d, error %d", f, l, n, e, m, fault)
			}
		}
	}
	for _, shape := range append(goodShapes(), badShapes()...) {
		lengths := roomy(shape...)
		_, _ = fold.Rows(lengths)
		intact(t, "Rows", lengths, shape)
	}
}
