package scalar_test

import (
	"math"
	"slices"
	"testing"

	"quadrat/api"
	"quadrat/scalar"
)

// together fails unless two shapes have that resulting one, or that error, and nothing beside it.
func together(t *testing.T, a, b, asked []int, error api.Errno) {
	t.Helper()
	got, e := scalar.Together(a, b)
	if e != error || !slices.Equal(got, asked) {
		t.Errorf("Together of %v and %v: error %d and %v, want %d and %v", a, b, e, got, error, asked)
	}
}

// badShapes are shapes that are not valid.
func badShapes() [][]int {
	return [][]int{
		{-1}, {4097}, {-4096}, {2, -1}, {-1, -1}, {0, -1}, {-1, 0}, {0, 4097}, {4097, 0}, {4096, 2}, {64, 65}, {1, 1, 4097}, {8, 8, 8, 9}, {1, 1, 1, 1, 1}, {0, 0, 0, 0, 0},
		{1 << 32, 1 << 32}, {1 << 62, 4}, {1 << 62, 4, 0}, {math.MaxInt}, {math.MinInt}, {math.MinInt, -1}, {0, math.MinInt}, {1<<32 + 1}, slices.Repeat([]int{1}, 1000),
	}
}

// goodShapes are valid ones with at least one axis, of which no two are equal.
func goodShapes() [][]int {
	return [][]int{
		{0}, {1}, {2}, {3}, {4095}, {4096}, {1, 1}, {2, 3}, {3, 2}, {2, 2}, {0, 3}, {3, 0}, {0, 0}, {64, 64}, {1, 4096}, {4096, 1}, {4096, 0},
		{1, 1, 1}, {2, 3, 1}, {1, 2, 3}, {0, 4096, 4096}, {16, 16, 16}, {1, 1, 1, 1}, {8, 8, 8, 8}, {2, 3, 1, 1}, {4096, 4096, 4096, 0}, {4096, 4096, 0, 4096},
	}
}

func TestTogetherOfNoAxes(t *testing.T) {
	together(t, nil, nil, nil, api.OK)
	together(t, nil, []int{}, nil, api.OK)
	together(t, []int{}, nil, nil, api.OK)
	together(t, []int{}, []int{}, nil, api.OK)
	for _, shape := range goodShapes() {
		together(t, nil, shape, shape, api.OK)
		together(t, shape, nil, shape, api.OK)
		together(t, []int{}, shape, shape, api.OK)
		together(t, shape, []int{}, shape, api.OK)
	}
}

func TestTogetherOfAxes(t *testing.T) {
	for i, a := range goodShapes() {
		for j, b := range goodShapes() {
			switch {
			case i == j:
				together(t, a, b, a, api.OK)
			case len(a) != len(b):
				together(t, a, b, nil, api.ErrRank)
			default:
				together(t, a, b, nil, api.ErrLength)
			}
		}
	}
	together(t, []int{2}, []int{3}, nil, api.ErrLength)
	together(t, []int{1}, []int{3}, nil, api.ErrLength)
	together(t, []int{3}, []int{1}, nil, api.ErrLength)
	together(t, []int{6}, []int{2, 3}, nil, api.ErrRank)
	together(t, []int{2, 3}, []int{2}, nil, api.ErrRank)
	together(t, []int{1}, []int{1, 1}, nil, api.ErrRank)
	together(t, []int{2, 3}, []int{3, 2}, nil, api.ErrLength)
	together(t, []int{2, 3, 4}, []int{2, 3, 5}, nil, api.ErrLength)
	together(t, []int{0}, []int{0, 0}, nil, api.ErrRank)
	together(t, []int{0, 2}, []int{2, 0}, nil, api.ErrLength)
}

func TestTogetherOfShapesThatAreNotValid(t *testing.T) {
	for _, bad := range badShapes() {
		together(t, bad, nil, nil, api.ErrArray)
		together(t, nil, bad, nil, api.ErrArray)
		together(t, bad, bad, nil, api.ErrArray)
		for _, other := range append(goodShapes(), badShapes()...) {
			together(t, bad, other, nil, api.ErrArray)
			together(t, other, bad, nil, api.ErrArray)
		}
	}
}

// What lies in the room behind a shape is none of it.
func TestTogetherAsksForNoRoom(t *testing.T) {
	a, b := []int{2, 9, 9}, []int{2, 3}
	together(t, a[:1], b[:1], []int{2}, api.OK)
	together(t, a[:1], b, nil, api.ErrRank)
	together(t, a[:0], b, b, api.OK)
}
