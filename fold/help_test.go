package fold_test

import (
	"fmt"
	"math"
	"math/big"
	"slices"
	"testing"

	"quadrat/api"
)

const (
	least    = math.MinInt64
	greatest = math.MaxInt64
)

// want fails unless an error is the one that is asked for.
func want(t *testing.T, what string, got, asked api.Errno) {
	t.Helper()
	if got != asked {
		t.Errorf("%s: error %d, want %d", what, got, asked)
	}
}

// is fails unless an array is the one that is asked for; nothing is the same as none.
func is(t *testing.T, what string, got, asked api.Array) {
	t.Helper()
	if got.Kind != asked.Kind || !slices.Equal(got.Shape, asked.Shape) || !slices.Equal(got.Elems, asked.Elems) {
		t.Errorf("%s: %s, want %s", what, short(got), short(asked))
	}
}

// short is an array, without what would be too much to read.
func short(a api.Array) string {
	if len(a.Elems) > 40 {
		return fmt.Sprint(a.Kind, a.Shape, a.Elems[:40], "..")
	}
	return fmt.Sprint(a.Kind, a.Shape, a.Elems)
}

// both are two arrays as a failed test tells them.
func both(a, b api.Array) string { return short(a) + " and " + short(b) }

// nums is an array of numbers, which need not be valid.
func nums(shape []int, elems ...int64) api.Array {
	return api.Array{Kind: 1, Shape: shape, Elems: elems}
}

// chars is an array of characters, which need not be valid.
func chars(shape []int, elems ...int64) api.Array {
	return api.Array{Kind: 2, Shape: shape, Elems: elems}
}

// number is a scalar.
func number(n int64) api.Array { return nums(nil, n) }

// vector is a vector of numbers.
func vector(elems ...int64) api.Array { return nums([]int{len(elems)}, elems...) }

// text is an array of that shape, of a text's characters.
func text(s string, shape ...int) api.Array {
	var elems []int64
	for _, c := range s {
		elems = append(elems, int64(c))
	}
	return chars(shape, elems...)
}

// many are the numbers from one on, so many of them.
func many(from int64, n int) []int64 {
	l := []int64{}
	for i := range n {
		l = append(l, from+int64(i))
	}
	return l
}

// told is an array of that shape whose elements tell their places: they are numbers, or characters, from one on.
func told(kind int, from int64, shape ...int) api.Array {
	return api.Array{Kind: kind, Shape: shape, Elems: many(from, max(0, countOf(shape)))}
}

// countOf is a shape's count, worked out with numbers of any size; -1 if the shape is not valid.
func countOf(shape []int) int {
	count := big.NewInt(1)
	for _, n := range shape {
		if n < 0 || n > 4096 {
			return -1
		}
		count.Mul(count, big.NewInt(int64(n)))
	}
	if len(shape) > 4 || count.Cmp(big.NewInt(4096)) > 0 {
		return -1
	}
	return int(count.Int64())
}

// isValid says whether an array is valid, as layer 11 words it.
func isValid(a api.Array) bool {
	if countOf(a.Shape) != len(a.Elems) || a.Kind != 1 && a.Kind != 2 {
		return false
	}
	for _, x := range a.Elems {
		if a.Kind == 2 && (x < 0 || 0xD800 <= x && x <= 0xDFFF || x > 0x10FFFF) {
			return false
		}
	}
	return true
}

// tuples are the index tuples of a valid shape, the last axis varying fastest.
func tuples(shape []int) [][]int {
	if slices.Contains(shape, 0) {
		return nil
	}
	l := [][]int{nil}
	for _, length := range shape {
		var longer [][]int
		for _, tuple := range l {
			for i := range length {
				longer = append(longer, append(slices.Clone(tuple), i))
			}
		}
		l = longer
	}
	return l
}

// placeOf is the position of an index tuple of a shape.
func placeOf(shape, tuple []int) int {
	place, block := 0, 1
	for axis := len(shape) - 1; axis >= 0; axis-- {
		place += tuple[axis] * block
		block *= shape[axis]
	}
	return place
}

// badShapes are shapes that are not valid.
func badShapes() [][]int {
	return [][]int{
		{4097}, {-1}, {1, -1}, {-1, -1}, {0, -1}, {-1, 0}, {0, 4097}, {4097, 0}, {4096, 2}, {64, 65}, {17, 241}, {8, 8, 8, 9}, {1, 1, 1, 1, 1}, {0, 0, 0, 0, 0},
		{1 << 32, 1 << 32}, {1 << 62, 4}, {1 << 62, 4, 0}, {0, 1 << 62}, {math.MaxInt}, {math.MinInt}, {math.MinInt, 2}, {1 << 32}, {1<<32 + 1}, make([]int, 1000),
	}
}

// goodShapes are valid ones of each rank.
func goodShapes() [][]int {
	return [][]int{
		nil, {}, {0}, {1}, {2}, {3}, {5}, {4096}, {0, 0}, {0, 3}, {3, 0}, {1, 1}, {2, 2}, {2, 3}, {3, 2}, {1, 4}, {4, 1}, {64, 64}, {0, 4096}, {4096, 0}, {4096, 1}, {1, 4096},
		{2, 3, 2}, {2, 3, 4}, {1, 1, 1}, {1, 3, 1}, {0, 2, 2}, {2, 0, 2}, {2, 2, 0}, {4096, 4096, 0}, {16, 16, 16}, {2, 1, 2, 1}, {2, 3, 1, 2}, {2, 3, 4, 5}, {1, 1, 1, 1}, {0, 1, 2, 3}, {2, 2, 0, 2}, {3, 2, 2, 0}, {8, 8, 8, 8}, {4096, 4096, 4096, 0}, {0, 0, 0, 0},
	}
}

// fewShapes are valid ones of each rank, with few elements.
func fewShapes() [][]int {
	var l [][]int
	for _, shape := range goodShapes() {
		if countOf(shape) < 200 {
			l = append(l, shape)
		}
	}
	return l
}

// badArrays are arrays that are not valid.
func badArrays() []api.Array {
	l := []api.Array{
		{}, {Kind: 1}, {Kind: 2}, {Elems: []int64{7}}, {Kind: 3, Elems: []int64{7}}, {Kind: -1, Elems: []int64{7}}, {Kind: 1<<32 + 1, Elems: []int64{7}}, {Kind: 0, Shape: []int{2}, Elems: []int64{1, 2}}, {Shape: []int{2}, Elems: []int64{2, 1}}, {Shape: []int{0}},
		nums(nil, 1, 2), nums([]int{2}, 1), nums([]int{1}, 1, 2), nums([]int{0}, 0), nums([]int{2, 2}, 1, 2, 3), nums([]int{2, 2}, 1, 2, 3, 4, 5), nums([]int{4097}, many(1, 4097)...), nums([]int{1, 1, 1, 1, 1}, 7), nums([]int{-1}),
		chars(nil, 0xD800), chars([]int{2}, 97, 0xDFFF), chars([]int{1}, -1), chars(nil, 0x110000), chars([]int{2, 2}, 97), chars(nil), chars(nil, least), chars([]int{1, 1, 1, 1, 1}, 97),
	}
	for _, shape := range badShapes() {
		l = append(l, nums(shape), nums(shape, 1), chars(shape, 97))
	}
	return l
}

// goodArrays are valid ones of each kind and rank, most of which go together with few others.
func goodArrays() []api.Array {
	l := []api.Array{number(0), number(1), number(2), number(-1), number(least), number(greatest), vector(2, 1), vector(-1, 1), vector(0, 1, 0), vector(4097), vector(least, greatest), text("a"), text("ab", 2)}
	for _, shape := range fewShapes() {
		l = append(l, told(1, 1, shape...), told(2, 97, shape...))
	}
	return l
}

// noise yields numbers that look like chance and are always the same.
type noise uint64

// next is the next number.
func (r *noise) next() uint64 {
	*r = *r*6364136223846793005 + 1442695040888963407
	return uint64(*r>>32) ^ uint64(*r)<<20
}

// below is the next number, from 0 on and below n.
func (r *noise) below(n int) int { return int(r.next() % uint64(n)) }

// shape is the next shape, valid and with few elements.
func (r *noise) shape() []int {
	var l []int
	for range r.below(5) {
		l = append(l, r.below(5))
	}
	return l
}

// The dyadic functions, by their glyphs' words.
const (
	add = iota + 1
	sub
	mul
	div
	rem
	minimum
	maximum
	pow
	eq
	ne
	lt
	le
	ge
	gt
	and
	or
	not
)

// dyadic are the numbers of the dyadic functions.
func dyadic() []int {
	return []int{add, sub, mul, div, rem, minimum, maximum, pow, eq, ne, lt, le, ge, gt, and, or}
}

// noFunctions are numbers that no dyadic function has; the first one is that of a monadic one.
func noFunctions() []int {
	return []int{not, 0, -1, -2, -16, 18, 19, 20, 31, 255, 256, 257, 1 << 32, 1<<32 + 1, -1 << 32, least, least + 1, greatest, greatest - 1}
}

// number is the next number: mostly a small one, sometimes one near to where numbers end.
func (r *noise) number() int64 {
	switch r.below(12) {
	case 0:
		return greatest - int64(r.below(3))
	case 1:
		return least + int64(r.below(3))
	case 2:
		return int64(r.next()<<44|r.next()) >> r.below(64)
	case 3, 4, 5:
		return int64(r.below(2))
	}
	return int64(r.below(9)) - 4
}

// numbers are the next numbers, so many of them.
func (r *noise) numbers(n int) []int64 {
	l := []int64{}
	for range n {
		l = append(l, r.number())
	}
	return l
}

// array is the next array of that shape: mostly one of numbers.
func (r *noise) array(shape []int) api.Array {
	if r.below(8) > 0 {
		return nums(shape, r.numbers(countOf(shape))...)
	}
	a := chars(shape)
	for range countOf(shape) {
		a.Elems = append(a.Elems, int64(r.below(3)))
	}
	return a
}
