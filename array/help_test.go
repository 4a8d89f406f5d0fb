package array_test

import (
	"math"
	"math/big"
	"slices"
	"testing"

	"quadrat/api"
	"quadrat/array"
)

const (
	least    = math.MinInt64
	greatest = math.MaxInt64
)

// want fails unless an error is the one that is asked for.
func want(t *testing.T, what string, got, asked api.Errno) {
	t.Helper()
	if got != asked {
		t.Errorf("%s: error %d, want %d", what, got, asked)
	}
}

// equal says whether two arrays are equal; nothing is the same as none.
func equal(one, two api.Array) bool {
	return one.Kind == two.Kind && slices.Equal(one.Shape, two.Shape) && slices.Equal(one.Elems, two.Elems)
}

// is fails unless an array is the one that is asked for.
func is(t *testing.T, what string, got, asked api.Array) {
	t.Helper()
	if !equal(got, asked) {
		t.Errorf("%s: %v, want %v", what, got, asked)
	}
}

// countOf is a shape's count, worked out with numbers that are never too great; -1 if the shape is not valid.
func countOf(shape []int) int {
	count := big.NewInt(1)
	for _, n := range shape {
		if n < 0 || n > 4096 {
			return -1
		}
		count.Mul(count, big.NewInt(int64(n)))
	}
	if len(shape) > 4 || count.Cmp(big.NewInt(4096)) > 0 {
		return -1
	}
	return int(count.Int64())
}

// isCharacter says whether a number is a character's, as the chapter words it.
func isCharacter(x int64) bool {
	return 0 <= x && x < 0xD800 || 0xDFFF < x && x <= 0x10FFFF
}

// isValid says whether an array is valid, as the chapter words it.
func isValid(a api.Array) bool {
	if countOf(a.Shape) != len(a.Elems) || a.Kind != 1 && a.Kind != 2 {
		return false
	}
	for _, x := range a.Elems {
		if a.Kind == 2 && !isCharacter(x) {
			return false
		}
	}
	return true
}

// nums is an array of numbers, which need not be valid.
func nums(shape []int, elems ...int64) api.Array {
	return api.Array{Kind: 1, Shape: shape, Elems: elems}
}

// chars is an array of characters, which need not be valid.
func chars(shape []int, elems ...int64) api.Array {
	return api.Array{Kind: 2, Shape: shape, Elems: elems}
}

// first are the numbers from 1 on, so many of them.
func first(n int) []int64 {
	l := []int64{}
	for i := range n {
		l = append(l, int64(i+1))
	}
	return l
}

// accepted fails unless an array is valid, whoever is asked.
func accepted(t *testing.T, what string, a api.Array) {
	t.Helper()
	if !isValid(a) {
		t.Fatalf("%s: the test itself holds %v for one that is not valid", what, a)
	}
	want(t, what+": Check", array.Check(a), api.OK)
	if text, e := array.Text(a); e != api.OK || text == "" {
		t.Errorf("%s: Text: error %d and %q", what, e, text)
	}
	got, e := array.Make(a.Kind, a.Shape, func(n int) int64 { return a.Elems[n] })
	want(t, what+": Make", e, api.OK)
	is(t, what+": Make", got, a)
}

// barred fails unless an array is not valid, and has no text.
func barred(t *testing.T, what string, a api.Array) {
	t.Helper()
	if isValid(a) {
		t.Fatalf("%s: the test itself holds %v for a valid one", what, a)
	}
	want(t, what+": Check", array.Check(a), api.ErrArray)
	text, e := array.Text(a)
	want(t, what+": Text", e, api.ErrArray)
	if text != "" {
		t.Errorf("%s: Text answers %q beside its error", what, text)
	}
}

// made is what Make answers with elements that may be.
func made(t *testing.T, kind int, shape []int, elem func(n int) int64) api.Array {
	t.Helper()
	a, e := array.Make(kind, shape, elem)
	if e != api.OK {
		t.Fatalf("Make(%d, %v): error %d", kind, shape, e)
	}
	return a
}

// refused fails unless Make answers ErrArray, and the zero array beside it.
func refused(t *testing.T, what string, kind int, shape []int, elem func(n int) int64) {
	t.Helper()
	a, e := array.Make(kind, shape, elem)
	want(t, what+": Make", e, api.ErrArray)
	is(t, what+": Make, beside its error", a, api.Array{})
}

// badShapes are shapes that are not valid.
func badShapes() [][]int {
	return [][]int{
		{4097}, {-1}, {-4096}, {1, -1}, {-1, -1}, {0, -1}, {-1, 0}, {0, 4097}, {4097, 0}, {4096, 2}, {2, 4096}, {4096, 4096, 4096, 4096},
		{64, 65}, {65, 64}, {17, 241}, {8, 8, 8, 9}, {1, 1, 1, 1, 1}, {0, 0, 0, 0, 0}, {2, 0, 2, 2, 2, 2}, {1, 1, 1, 1, -1}, {1, 1, 1, 4097},
		{1 << 32, 1 << 32}, {1 << 16, 1 << 16, 1 << 16, 1 << 16}, {1 << 62, 4}, {1 << 62, 4, 0}, {0, 1 << 62}, {1 << 62, 2},
		{math.MaxInt}, {math.MinInt}, {math.MinInt, -1}, {math.MinInt, 2}, {0, math.MinInt}, {math.MaxInt, math.MaxInt}, {1<<32 + 1}, {1 << 32}, {-1, -4096}, {1 << 61, 8, 1},
		make([]int, 5), make([]int, 1000), slices.Repeat([]int{1}, 100_000),
	}
}

// goodShapes are valid ones of each rank.
func goodShapes() [][]int {
	return [][]int{
		nil, {}, {0}, {1}, {2}, {13}, {4095}, {4096}, {0, 0}, {0, 7}, {7, 0}, {1, 1}, {2, 3}, {3, 2}, {64, 64}, {1, 4096}, {4096, 1}, {2, 2048}, {4096, 0}, {0, 4096},
		{0, 4096, 4096}, {4096, 0, 4096}, {4096, 4096, 0}, {1, 1, 1}, {2, 3, 4}, {16, 16, 16}, {1, 4096, 1}, {2, 0, 3},
		{0, 0, 0, 0}, {4096, 4096, 4096, 0}, {0, 4096, 4096, 4096}, {1, 1, 1, 1}, {2, 3, 4, 5}, {5, 1, 4, 1}, {8, 8, 8, 8}, {1, 1, 1, 4096}, {4096, 1, 1, 1}, {7, 3, 5, 39}, {3, 2, 0, 2},
	}
}

// noise yields numbers that look like chance and are always the same.
type noise uint64

// next is the next number.
func (r *noise) next() uint64 {
	*r = *r*6364136223846793005 + 1442695040888963407
	return uint64(*r>>32) ^ uint64(*r)<<20
}

// below is the next number, from 0 on and below n.
func (r *noise) below(n int) int { return int(r.next() % uint64(n)) }

// shape is the next shape, valid and with few elements.
func (r *noise) shape() []int {
	var l []int
	for range r.below(5) {
		l = append(l, r.below(5))
	}
	return l
}

// array is the next array, valid and with few elements.
func (r *noise) array() api.Array {
	a := api.Array{Kind: 1 + r.below(2), Shape: r.shape()}
	for range countOf(a.Shape) {
		x := int64(r.next()) >> r.below(64)
		if a.Kind == 2 {
			x = []int64{'\'', 'a', '\u00AF', '\u2374', '0', ' ', 0x10FFFF, int64(r.below(0xD800))}[r.below(8)]
		}
		a.Elems = append(a.Elems, x)
	}
	return a
}
