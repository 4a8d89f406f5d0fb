package array_test

import (
	"slices"
	"testing"

	"quadrat/api"
	"quadrat/array"
)

// alike fails unless Same says of two arrays what is asked for, whichever comes first, and of each of them and its copy that they are equal.
func alike(t *testing.T, what string, one, two api.Array, asked bool) {
	t.Helper()
	if array.Same(one, two) != asked || array.Same(two, one) != asked {
		t.Errorf("%s: Same of %v and %v is %v, %v", what, one, two, array.Same(one, two), array.Same(two, one))
	}
	for _, a := range []api.Array{one, two} {
		c := array.Copy(a)
		is(t, what+": Copy", c, a)
		if !array.Same(a, a) || !array.Same(a, c) || !array.Same(c, a) {
			t.Errorf("%s: %v is not the same as itself", what, a)
		}
	}
	if array.Same(array.Copy(one), two) != asked {
		t.Errorf("%s: Same of a copy of %v and %v is not %v", what, one, two, asked)
	}
}

func TestSame(t *testing.T) {
	a := nums([]int{2, 2}, 1, 2, 3, 4)
	alike(t, "the same", a, nums([]int{2, 2}, 1, 2, 3, 4), true)
	alike(t, "another kind", a, chars([]int{2, 2}, 1, 2, 3, 4), false)
	alike(t, "a kind that is none", a, api.Array{Kind: 3, Shape: []int{2, 2}, Elems: []int64{1, 2, 3, 4}}, false)
	for _, shape := range [][]int{nil, {4}, {2}, {4, 1}, {1, 4}, {2, 2, 1}, {1, 2, 2}, {2, 3}, {3, 2}, {-2, -2}} {
		alike(t, "another shape", a, nums(shape, 1, 2, 3, 4), false)
	}
	for i := range 4 {
		for _, x := range []int64{0, -1, 5, least, greatest, int64(i+1) + 1<<32} {
			b := nums([]int{2, 2}, 1, 2, 3, 4)
			b.Elems[i] = x
			alike(t, "another element", a, b, false)
		}
	}
	alike(t, "elements in another order", a, nums([]int{2, 2}, 1, 3, 2, 4), false)
	alike(t, "fewer elements", a, nums([]int{2, 2}, 1, 2, 3), false)
	alike(t, "more elements", a, nums([]int{2, 2}, 1, 2, 3, 4, 0), false)
	alike(t, "the zero array", a, api.Array{}, false)
	alike(t, "axes in another order", nums([]int{2, 3}, first(6)...), nums([]int{3, 2}, first(6)...), false)
	alike(t, "nothing of other shapes", nums([]int{0, 3}), nums([]int{3, 0}), false)
}

func TestSameOfNilAndEmpty(t *testing.T) {
	alike(t, "no elements", api.Array{Kind: 1, Shape: []int{0}}, api.Array{Kind: 1, Shape: []int{0}, Elems: []int64{}}, true)
	alike(t, "no axes", api.Array{Kind: 2, Elems: []int64{97}}, api.Array{Kind: 2, Shape: []int{}, Elems: []int64{97}}, true)
	alike(t, "neither", api.Array{}, api.Array{Shape: []int{}, Elems: []int64{}}, true)
	alike(t, "no axes and one", api.Array{Kind: 1, Shape: []int{}, Elems: []int64{7}}, api.Array{Kind: 1, Shape: []int{1}, Elems: []int64{7}}, false)
	alike(t, "no axes and an axis of nothing", api.Array{Kind: 1}, api.Array{Kind: 1, Shape: []int{0}}, false)
	alike(t, "no elements and a zero", api.Array{Kind: 1}, api.Array{Kind: 1, Elems: []int64{0}}, false)
}

// What lies in the room behind the lists is none of an array.
func TestSameAsksForNoRoom(t *testing.T) {
	shape, elems := []int{2, 9, 9}, []int64{1, 2, 8, 8}
	alike(t, "room", nums(shape[:1], elems[:2]...), nums([]int{2}, 1, 2), true)
}

func TestSameOfArraysThatAreNotValid(t *testing.T) {
	for _, kind := range []int{-1, 0, 1, 2, 3, least, greatest} {
		for _, shape := range append(badShapes(), nil, []int{2}) {
			one := api.Array{Kind: kind, Shape: shape, Elems: []int64{-1, 0xD800, 0x110000}}
			if isValid(one) {
				t.Fatalf("the test itself holds %v for one that is not valid", one)
			}
			two := api.Array{Kind: kind, Shape: slices.Clone(shape), Elems: slices.Clone(one.Elems)}
			alike(t, "not valid", one, two, true)
			two.Elems[2]++
			alike(t, "not valid, another element", one, two, false)
			two.Elems = two.Elems[:2]
			alike(t, "not valid, fewer elements", one, two, false)
			two.Elems = slices.Clone(one.Elems)
			two.Kind ^= 4
			alike(t, "not valid, another kind", one, two, false)
			two.Kind = kind
			two.Shape = append(two.Shape, 1)
			alike(t, "not valid, another shape", one, two, false)
		}
	}
	alike(t, "too many", array.Vector(first(4097)...), nums([]int{4097}, first(4097)...), true)
}
