package array_test

import (
	"math"
	"slices"
	"testing"

	"quadrat/array"
)

// tuples are the index tuples of a valid shape, counted up in row-major order.
func tuples(shape []int) [][]int {
	var l [][]int
	at := make([]int, len(shape))
	for range countOf(shape) {
		l = append(l, slices.Clone(at))
		for i := len(at) - 1; i >= 0; i-- {
			if at[i]++; at[i] < shape[i] {
				break
			}
			at[i] = 0
		}
	}
	return l
}

// places fails unless an index tuple has that position, both ways.
func places(t *testing.T, shape, at []int, n int) {
	t.Helper()
	if got, is := array.Place(shape, at); !is || got != n {
		t.Errorf("Place(%v, %v) is %d, %v, want %d", shape, at, got, is, n)
	}
	if got, is := array.At(shape, n); !is || !slices.Equal(got, at) {
		t.Errorf("At(%v, %d) is %v, %v, want %v", shape, n, got, is, at)
	}
}

// noPlace fails unless Place answers 0 and false.
func noPlace(t *testing.T, shape, at []int) {
	t.Helper()
	if got, is := array.Place(shape, at); is || got != 0 {
		t.Errorf("Place(%v, %v) is %d, %v", shape, at, got, is)
	}
}

// nowhere fails unless At answers nil and false.
func nowhere(t *testing.T, shape []int, n int) {
	t.Helper()
	if got, is := array.At(shape, n); is || got != nil {
		t.Errorf("At(%v, %d) is %v, %v", shape, n, got, is)
	}
}

// The chapter's examples.
func TestExamplesOfPlaces(t *testing.T) {
	places(t, []int{2, 3}, []int{1, 2}, 5)
	places(t, []int{2, 3}, []int{1, 1}, 4)
	noPlace(t, []int{2, 3}, []int{0, 3})
}

// The last axis varies fastest.
func TestPlacesInOrder(t *testing.T) {
	for n, at := range [][]int{{0, 0, 0}, {0, 0, 1}, {0, 1, 0}, {0, 1, 1}, {0, 2, 0}, {0, 2, 1}, {1, 0, 0}, {1, 0, 1}, {1, 1, 0}, {1, 1, 1}, {1, 2, 0}, {1, 2, 1}} {
		places(t, []int{2, 3, 2}, at, n)
	}
	for n := range 4096 {
		places(t, []int{4096}, []int{n}, n)
		places(t, []int{1, 4096}, []int{0, n}, n)
		places(t, []int{4096, 1, 1}, []int{n, 0, 0}, n)
		places(t, []int{8, 8, 8, 8}, []int{n / 512, n / 64 % 8, n / 8 % 8, n % 8}, n)
	}
}

// Place and At are inverses of each other, at every position of a shape.
func TestPlacesOfShapes(t *testing.T) {
	for _, shape := range goodShapes() {
		l := tuples(shape)
		for n, at := range l {
			places(t, shape, at, n)
		}
		nowhere(t, shape, len(l))
		nowhere(t, shape, -1)
	}
	r := noise(11)
	for range 1000 {
		shape := r.shape()
		for n, at := range tuples(shape) {
			places(t, shape, at, n)
		}
	}
}

// Place says of every tuple about a shape whether it is one, and no two have the same position.
func TestPlacesOfAllTuples(t *testing.T) {
	for _, shape := range [][]int{{3, 2, 4}, {1, 1, 1}, {2, 0, 3}, {0, 0, 0}} {
		seen := make(map[int]bool)
		for i := -2; i < 6; i++ {
			for j := -2; j < 6; j++ {
				for k := -2; k < 6; k++ {
					at := []int{i, j, k}
					if i < 0 || j < 0 || k < 0 || i >= shape[0] || j >= shape[1] || k >= shape[2] {
						noPlace(t, shape, at)
						continue
					}
					n, _ := array.Place(shape, at)
					if seen[n] {
						t.Errorf("Place(%v, %v) is %d once more", shape, at, n)
					}
					seen[n] = true
					places(t, shape, at, (i*shape[1]+j)*shape[2]+k)
				}
			}
		}
		if len(seen) != countOf(shape) {
			t.Errorf("%v has %d tuples", shape, len(seen))
		}
	}
}

func TestPlacesInNoAxes(t *testing.T) {
	for _, shape := range [][]int{nil, {}} {
		for _, at := range [][]int{nil, {}} {
			places(t, shape, at, 0)
		}
		noPlace(t, shape, []int{0})
		noPlace(t, shape, []int{0, 0})
		for _, n := range []int{1, -1, 2, 4096, math.MaxInt, math.MinInt} {
			nowhere(t, shape, n)
		}
	}
}

func TestTuplesThatAreNone(t *testing.T) {
	for _, shape := range [][]int{{1}, {4}, {4096}, {2, 3}, {1, 1}, {64, 64}, {2, 3, 4}, {2, 3, 4, 5}, {0}, {3, 0}} {
		zeros := make([]int, len(shape))
		noPlace(t, shape, nil)
		noPlace(t, shape, zeros[1:])
		noPlace(t, shape, append(slices.Clone(zeros), 0))
		noPlace(t, shape, append(slices.Clone(shape), 0, 0, 0, 0))
		noPlace(t, shape, shape)
		for i, length := range shape {
			for _, x := range []int{-1, length, length + 1, -length - 1, 4096, 4097, 1 << 32, math.MaxInt, math.MinInt} {
				at := slices.Clone(zeros)
				at[i] = x
				noPlace(t, shape, at)
			}
		}
	}
	// The positions that such tuples would have are those of others.
	noPlace(t, []int{2, 3}, []int{0, 3})
	noPlace(t, []int{2, 3}, []int{0, 5})
	noPlace(t, []int{2, 3}, []int{1, -1})
	noPlace(t, []int{2, 3}, []int{2, -3})
	noPlace(t, []int{2, 3}, []int{-1, 3})
	noPlace(t, []int{2, 3}, []int{2, 0})
	noPlace(t, []int{2, 3}, []int{1 << 62, 0})
}

func TestPositionsThatAreNone(t *testing.T) {
	for _, shape := range goodShapes() {
		count := countOf(shape)
		for _, n := range []int{-1, -2, -count, -count - 1, count, count + 1, 2*count + 1, 4096, 4097, 1 << 32, math.MaxInt, math.MinInt} {
			if n < 0 || n >= count {
				nowhere(t, shape, n)
			}
		}
		if count > 0 {
			last, is := array.At(shape, count-1)
			for i, x := range last {
				is = is && x == shape[i]-1
			}
			if !is || len(last) != len(shape) {
				t.Errorf("At(%v, %d) is %v, %v", shape, count-1, last, is)
			}
		}
	}
}

func TestPlacesInNothing(t *testing.T) {
	for _, shape := range [][]int{{0}, {0, 3}, {3, 0}, {2, 0, 2}, {0, 0, 0, 0}, {4096, 4096, 4096, 0}} {
		noPlace(t, shape, make([]int, len(shape)))
		for n := -2; n <= 2; n++ {
			nowhere(t, shape, n)
		}
	}
}

func TestPlacesInShapesThatAreNotValid(t *testing.T) {
	for _, shape := range badShapes() {
		noPlace(t, shape, make([]int, len(shape)))
		noPlace(t, shape, nil)
		noPlace(t, shape, shape)
		for _, n := range []int{-1, 0, 1, 4095, 4096, math.MaxInt, math.MinInt} {
			nowhere(t, shape, n)
		}
	}
}
