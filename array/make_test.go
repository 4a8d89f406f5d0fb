package array_test

import (
	"slices"
	"strings"
	"testing"

	"quadrat/api"
	"quadrat/array"
)

func TestScalar(t *testing.T) {
	for _, n := range []int64{0, 1, -1, 4096, 4097, 0xD800, -1 << 32, least, least + 1, greatest - 1, greatest} {
		is(t, "Scalar", array.Scalar(n), nums(nil, n))
		accepted(t, "Scalar", array.Scalar(n))
	}
}

func TestVector(t *testing.T) {
	is(t, "of nothing", array.Vector(), nums([]int{0}))
	is(t, "of no list", array.Vector([]int64(nil)...), nums([]int{0}))
	is(t, "of one", array.Vector(7), nums([]int{1}, 7))
	is(t, "of some", array.Vector(least, 0, greatest), nums([]int{3}, least, 0, greatest))
	for _, n := range []int{0, 1, 2, 100, 4095, 4096} {
		is(t, "of many", array.Vector(first(n)...), nums([]int{n}, first(n)...))
		accepted(t, "of many", array.Vector(first(n)...))
	}
	for _, n := range []int{4097, 4098, 8192, 100_000} {
		barred(t, "of too many", array.Vector(first(n)...))
	}
}

func TestChars(t *testing.T) {
	for _, c := range []struct {
		text  string
		elems []int64
	}{
		{"", nil},
		{"a", []int64{97}},
		{"it's", []int64{105, 116, 39, 115}},
		{"\x00\n\x7F", []int64{0, 10, 127}},
		{"\u00AF\u2374\uD7FF\uE000\uFFFD\uFFFF", []int64{0xAF, 0x2374, 0xD7FF, 0xE000, 0xFFFD, 0xFFFF}},
		{"\U00010000\U0010FFFF", []int64{0x10000, 0x10FFFF}},
		{"e\u0301", []int64{101, 0x301}}, // two characters, if they look like one
	} {
		asked := chars([]int{len(c.elems)}, c.elems...)
		is(t, c.text, array.Chars(c.text), asked)
		accepted(t, c.text, array.Chars(c.text))
	}
}

// A byte that is not part of valid UTF-8 is a character of its own.
func TestCharsOfWhatIsNoText(t *testing.T) {
	for _, c := range []struct {
		text  string
		elems []int64
	}{
		{"\xFF", []int64{0xFFFD}},
		{"\x80\x80", []int64{0xFFFD, 0xFFFD}},
		{"a\xFFb", []int64{97, 0xFFFD, 98}},
		{"\u2374\xE2\x8D\u2374", []int64{0x2374, 0xFFFD, 0xFFFD, 0x2374}},   // cut short
		{"\xE2\x8Da", []int64{0xFFFD, 0xFFFD, 97}},                          // cut short by a byte that is a character
		{"\xED\xA0\x80x", []int64{0xFFFD, 0xFFFD, 0xFFFD, 120}},             // D800
		{"\xED\xBF\xBF", []int64{0xFFFD, 0xFFFD, 0xFFFD}},                   // DFFF
		{"\xC0\x80", []int64{0xFFFD, 0xFFFD}},                               // longer than it must be
		{"\xF4\x90\x80\x80z", []int64{0xFFFD, 0xFFFD, 0xFFFD, 0xFFFD, 122}}, // 110000
		{"\xF0\x9F\x98", []int64{0xFFFD, 0xFFFD, 0xFFFD}},                   // cut short at the end
		{"\uFFFD\xFE\uFFFD", []int64{0xFFFD, 0xFFFD, 0xFFFD}},               // among the character itself
		{"\u00E9\xE9\xC3\u00E9", []int64{0xE9, 0xFFFD, 0xFFFD, 0xE9}},       // bytes of another encoding
	} {
		asked := chars([]int{len(c.elems)}, c.elems...)
		is(t, "no text", array.Chars(c.text), asked)
		accepted(t, "no text", array.Chars(c.text))
	}
}

// It is the characters that count, and not their bytes.
func TestCharsOfMany(t *testing.T) {
	for _, c := range []struct {
		text string
		x    int64
	}{{"a", 97}, {"\u2374", 0x2374}, {"\U0010FFFF", 0x10FFFF}, {"\xFF", 0xFFFD}} {
		for _, n := range []int{1, 4095, 4096} {
			a := array.Chars(strings.Repeat(c.text, n))
			is(t, c.text, a, chars([]int{n}, slices.Repeat([]int64{c.x}, n)...))
			accepted(t, c.text, a)
		}
		for _, n := range []int{4097, 4098, 10_000} {
			barred(t, c.text, array.Chars(strings.Repeat(c.text, n)))
		}
	}
}

// never is a function that Make must not call.
func never(t *testing.T) func(n int) int64 {
	return func(n int) int64 {
		t.Errorf("called with %d", n)
		return 0
	}
}

func TestMakeOfShapesThatAreNotValid(t *testing.T) {
	for _, shape := range badShapes() {
		for _, kind := range []int{-1, 0, 1, 2, 3} {
			refused(t, "a shape that is not valid", kind, shape, never(t))
			refused(t, "a shape that is not valid, and no function", kind, shape, nil)
		}
	}
}

func TestMakeOfNothing(t *testing.T) {
	for _, shape := range [][]int{{0}, {0, 0}, {3, 0}, {0, 4096, 4096, 4096}, {4096, 0}} {
		for kind := 1; kind <= 2; kind++ {
			is(t, "nothing", made(t, kind, shape, never(t)), api.Array{Kind: kind, Shape: shape})
			is(t, "nothing, and no function", made(t, kind, shape, nil), api.Array{Kind: kind, Shape: shape})
		}
		for _, kind := range []int{-1, 0, 3} {
			refused(t, "nothing of no kind", kind, shape, never(t))
			refused(t, "nothing of no kind, and no function", kind, shape, nil)
		}
	}
}

// noted is a function that notes what it is called with, and answers what another one does.
func noted(calls *[]int, elem func(n int) int64) func(n int) int64 {
	return func(n int) int64 {
		*calls = append(*calls, n)
		return elem(n)
	}
}

// calledInOrder fails unless the calls were made with the numbers below n, each once and in their order.
func calledInOrder(t *testing.T, what string, calls []int, n int) {
	t.Helper()
	var asked []int
	for i := range n {
		asked = append(asked, i)
	}
	if !slices.Equal(calls, asked) {
		t.Errorf("%s: called with %v, want the numbers below %d", what, calls, n)
	}
}

func TestMakeAsksForElementsInOrder(t *testing.T) {
	for _, shape := range goodShapes() {
		for kind := 1; kind <= 2; kind++ {
			var calls []int
			elems := first(countOf(shape))
			a := made(t, kind, shape, noted(&calls, func(n int) int64 { return elems[n] }))
			is(t, "Make", a, api.Array{Kind: kind, Shape: shape, Elems: elems})
			calledInOrder(t, "Make", calls, len(elems))
		}
	}
}

// What a function answers may hang on what it was called with before.
func TestMakeOfAFunctionThatGoesOn(t *testing.T) {
	sum := int64(0)
	a := made(t, 1, []int{2, 3}, func(n int) int64 {
		sum = 10*sum + int64(n)
		return sum
	})
	is(t, "Make", a, nums([]int{2, 3}, 0, 1, 12, 123, 1234, 12345))
}

// The elements are all asked for, whatever the kind is and whether they may be of it.
func TestMakeOfArraysThatAreNotValid(t *testing.T) {
	for _, kind := range []int{-1, 0, 3, 4, 1<<32 + 1} {
		for _, shape := range [][]int{nil, {1}, {2, 3}, {4096}} {
			var calls []int
			refused(t, "no kind", kind, shape, noted(&calls, func(n int) int64 { return 97 }))
			calledInOrder(t, "no kind", calls, countOf(shape))
		}
	}
	for _, x := range []int64{-1, 0xD800, 0xDFFF, 0x110000, 1<<32 + 97, least} {
		for at := range 6 {
			var calls []int
			elem := func(n int) int64 {
				if n == at {
					return x
				}
				return 97
			}
			refused(t, "no characters", 2, []int{3, 2}, noted(&calls, elem))
			calledInOrder(t, "no characters", calls, 6)
			is(t, "but numbers", made(t, 1, []int{6}, elem), nums([]int{6}, elem(0), elem(1), elem(2), elem(3), elem(4), elem(5)))
		}
	}
}

// A function that is nil, or fails, has no element to answer.
func TestMakeOfAFunctionThatPanics(t *testing.T) {
	for _, shape := range [][]int{nil, {1}, {2, 3}, {4096}} {
		for _, kind := range []int{-1, 0, 1, 2, 3} {
			refused(t, "no function", kind, shape, nil)
			for _, at := range []int{0, 1, 4095} {
				if at >= countOf(shape) {
					continue
				}
				var calls []int
				refused(t, "a function that panics", kind, shape, noted(&calls, func(n int) int64 {
					if n == at {
						panic("no element")
					}
					return 97
				}))
				calledInOrder(t, "a function that panics", calls, at+1)
			}
			refused(t, "a panic of nothing", kind, shape, func(int) int64 { panic(nil) })
		}
	}
}

// A function may make other arrays in between.
func TestMakeWithinMake(t *testing.T) {
	a := made(t, 1, []int{3}, func(n int) int64 {
		inner := made(t, 1, []int{n + 1}, func(m int) int64 { return int64(10*n + m) })
		refused(t, "within", 1, []int{1}, nil)
		return inner.Elems[n]
	})
	is(t, "around", a, nums([]int{3}, 0, 11, 22))
}
