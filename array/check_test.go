package array_test

import (
	"slices"
	"testing"

	"quadrat/api"
	"quadrat/array"
)

// counts fails unless a shape has that count, and an array of that shape is valid with just so many elements.
func counts(t *testing.T, shape []int, asked int) {
	t.Helper()
	if countOf(shape) != asked {
		t.Fatalf("the test itself has %d for %v, want %d", countOf(shape), shape, asked)
	}
	if got, e := array.Count(shape); e != api.OK || got != asked {
		t.Errorf("Count(%v): error %d and %d, want %d", shape, e, got, asked)
	}
	accepted(t, "as many elements as the count", nums(shape, first(asked)...))
	accepted(t, "as many characters as the count", chars(shape, first(asked)...))
	for _, n := range []int{0, 1, asked - 1, asked + 1, 2*asked + 2} {
		if n >= 0 && n != asked {
			barred(t, "another number of elements", nums(shape, first(n)...))
			barred(t, "another number of characters", chars(shape, first(n)...))
		}
	}
}

// The chapter's examples.
func TestExamplesOfCounts(t *testing.T) {
	counts(t, []int{2, 3}, 6)
	counts(t, nil, 1)
	counts(t, []int{}, 1)
	counts(t, []int{0, 4096}, 0)
	if got, e := array.Count([]int{65, 64}); e != api.ErrArray || got != 0 {
		t.Errorf("Count of 65 64: error %d and %d", e, got)
	}
}

func TestCountsOfShapes(t *testing.T) {
	for n := range 4097 {
		if got, e := array.Count([]int{n}); e != api.OK || got != n {
			t.Errorf("Count of %d: error %d and %d", n, e, got)
		}
	}
	for _, shape := range goodShapes() {
		counts(t, shape, countOf(shape))
	}
	for _, shape := range [][]int{{4096}, {4096, 1}, {1, 4096, 1, 1}, {64, 64}, {2, 2048}, {8, 8, 8, 8}, {1, 1, 1, 4096}, {16, 1, 16, 16}} {
		counts(t, shape, 4096)
	}
	for _, shape := range [][]int{{0}, {0, 0, 0, 0}, {0, 4096, 4096, 4096}, {4096, 4096, 4096, 0}, {4096, 0, 4096}, {1, 0}, {64, 65, 0}} {
		counts(t, shape, 0)
	}
	counts(t, []int{5, 819}, 4095)
	counts(t, []int{2, 3, 4, 5}, 120)
}

func TestShapesThatAreNotValid(t *testing.T) {
	for _, shape := range badShapes() {
		if countOf(shape) >= 0 {
			t.Fatalf("the test itself holds %v for a valid one", shape)
		}
		if got, e := array.Count(shape); e != api.ErrArray || got != 0 {
			t.Errorf("Count of %d axes, %v: error %d and %d", len(shape), shape[:1], e, got)
		}
		for _, n := range []int{0, 1, 2, 4096, 4097} {
			barred(t, "a shape that is not valid", nums(shape, first(n)...))
			barred(t, "a shape that is not valid, of characters", chars(shape, first(n)...))
		}
	}
}

// Every shape of few axes, with lengths about the limits.
func TestCountsOfAllLengths(t *testing.T) {
	lengths := []int{-1, 0, 1, 2, 63, 64, 65, 4095, 4096, 4097, 1 << 32}
	for _, k := range lengths {
		for _, m := range lengths {
			for _, n := range lengths {
				for _, shape := range [][]int{{k, m}, {k, m, n}, {k, m, n, 2}, {k, m, 64, n}} {
					asked, error := countOf(shape), api.OK
					if asked < 0 {
						asked, error = 0, api.ErrArray
					}
					if got, e := array.Count(shape); e != error || got != asked {
						t.Errorf("Count(%v): error %d and %d, want %d and %d", shape, e, got, error, asked)
					}
				}
			}
		}
	}
}

func TestKinds(t *testing.T) {
	for _, kind := range []int{0, 3, 4, 17, 255, 256, 257, 258, 1<<32 + 1, 1<<32 + 2, 1 << 40, -1, -2, -255, least, greatest} {
		for _, shape := range [][]int{nil, {0}, {1}, {2, 2}, {4097}} {
			a := nums(shape, first(max(0, countOf(shape)))...)
			a.Kind = kind
			barred(t, "a kind that is none", a)
		}
	}
	for kind := 1; kind <= 2; kind++ {
		accepted(t, "a kind", api.Array{Kind: kind, Elems: []int64{7}})
		accepted(t, "a kind of nothing", api.Array{Kind: kind, Shape: []int{0}})
	}
	barred(t, "the zero array", api.Array{})
	barred(t, "no elements", api.Array{Kind: 1})
	barred(t, "no elements, of characters", api.Array{Kind: 2})
	accepted(t, "no shape", api.Array{Kind: 1, Elems: []int64{0}})
}

func TestCharacters(t *testing.T) {
	for _, x := range []int64{0, 1, 9, 10, 39, 127, 128, 255, 0xD7FF, 0xE000, 0xFFFD, 0xFFFE, 0xFFFF, 0x10000, 0x10FFFE, 0x10FFFF} {
		accepted(t, "a character", chars(nil, x))
		accepted(t, "a character among others", chars([]int{3}, 97, 98, x))
		accepted(t, "a character ahead of others", chars([]int{2, 2}, x, 97, 98, 99))
		accepted(t, "its number", nums([]int{2}, x, 97))
	}
	for _, x := range []int64{-1, -97, 0xD800, 0xD801, 0xDBFF, 0xDC00, 0xDFFE, 0xDFFF, 0x110000, 0x110001, 1 << 31, 1<<32 - 1, 1 << 32, 1<<32 + 97, 1 << 62, -1 << 32, -1<<32 + 97, least + 97, least, greatest} {
		barred(t, "no character", chars(nil, x))
		barred(t, "no character behind others", chars([]int{3}, 97, 98, x))
		barred(t, "no character ahead of others", chars([]int{2, 2}, x, 97, 98, 99))
		accepted(t, "but a number", nums(nil, x))
		accepted(t, "but a number among others", nums([]int{3}, 97, x, 98))
	}
}

func TestNoCharacterAtEachPosition(t *testing.T) {
	for at := range 4096 {
		l := slices.Repeat([]int64{0x10FFFF}, 4096)
		l[at]++
		want(t, "Check", array.Check(chars([]int{64, 64}, l...)), api.ErrArray)
		want(t, "Check", array.Check(nums([]int{64, 64}, l...)), api.OK)
	}
}
