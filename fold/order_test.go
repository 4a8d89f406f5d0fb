package fold_test

import (
	"testing"

	"quadrat/api"
)

// A function that is not dyadic tells ahead of all else, whatever the arrays are.
func TestNoFunctions(t *testing.T) {
	good := []api.Array{number(1), vector(), vector(1, 2, 3), told(1, 1, 2, 2), text("a"), text("", 0), nums([]int{4096, 2, 0}), told(1, 1, 1, 1, 1, 1)}
	l := append(badArrays()[:30], good...)
	for _, f := range noFunctions() {
		for _, a := range l {
			fails(t, reduce(f, a), api.ErrArg)
			fails(t, scan(f, a), api.ErrArg)
			for _, b := range good {
				fails(t, outer(f, a, b), api.ErrArg)
				fails(t, outer(f, b, a), api.ErrArg)
				fails(t, inner(f, f, a, b), api.ErrArg)
				fails(t, inner(f, add, b, a), api.ErrArg)
				fails(t, inner(add, f, a, b), api.ErrArg)
			}
		}
	}
}

// The first function and the second one of an inner product are both dyadic.
func TestOneFunctionThatIsNone(t *testing.T) {
	for _, f := range dyadic() {
		for _, no := range noFunctions() {
			fails(t, inner(f, no, vector(1), vector(1)), api.ErrArg)
			fails(t, inner(no, f, vector(1), vector(1)), api.ErrArg)
			fails(t, inner(no, no, vector(1), vector(1)), api.ErrArg)
		}
	}
}

// An array that is not valid tells ahead of all but the functions.
func TestArraysThatAreNotValid(t *testing.T) {
	for _, bad := range badArrays() {
		for _, f := range []int{add, eq, and} {
			fails(t, reduce(f, bad), api.ErrArray)
			fails(t, scan(f, bad), api.ErrArray)
			for _, good := range goodArrays() {
				fails(t, outer(f, bad, good), api.ErrArray)
				fails(t, outer(f, good, bad), api.ErrArray)
				fails(t, inner(f, mul, bad, good), api.ErrArray)
				fails(t, inner(mul, f, good, bad), api.ErrArray)
			}
			fails(t, outer(f, bad, bad), api.ErrArray)
			fails(t, inner(f, f, bad, bad), api.ErrArray)
		}
	}
}

// Shapes that are not valid are told by themselves, by every function and with as many elements as they would have.
func TestShapesThatAreNotValid(t *testing.T) {
	for _, shape := range [][]int{{4097}, {1, 4097}, {-1}, {0, -1}, {-1, 0}, {64, 65}, {1, 1, 1, 1, 1}, {0, 0, 0, 0, 0}} {
		count := 1
		for _, n := range shape {
			count *= n
		}
		for kind := 1; kind <= 2; kind++ {
			a := api.Array{Kind: kind, Shape: shape, Elems: make([]int64, max(0, count))}
			for _, build := range builders(eq, ne) {
				fails(t, build(a, a), api.ErrArray)
				fails(t, build(a, number(1)), api.ErrArray)
			}
			fails(t, outer(eq, number(1), a), api.ErrArray)
			fails(t, inner(add, eq, number(1), a), api.ErrArray)
		}
	}
}

// Of reduce, characters tell ahead of too many rows, and these ahead of folds, of which there are none then.
func TestTheOrderOfReduce(t *testing.T) {
	fails(t, reduce(not, chars([]int{1}, least)), api.ErrArg)
	fails(t, reduce(add, chars([]int{1}, least)), api.ErrArray)
	fails(t, reduce(add, chars([]int{4096, 4096, 0})), api.ErrDomain)
	fails(t, reduce(add, chars([]int{4096, 4096, 0}, 97)), api.ErrArray)
	fails(t, reduce(add, nums([]int{4096, 4096, 0}, 1)), api.ErrArray)
	fails(t, reduce(not, nums([]int{4096, 4096, 0})), api.ErrArg)
	fails(t, reduce(div, nums([]int{4096, 4096, 0})), api.ErrLimit)
	fails(t, scan(not, text("ab", 2)), api.ErrArg)
	fails(t, scan(add, chars([]int{2}, 97)), api.ErrArray)
	fails(t, scan(add, chars([]int{2}, 0, 0)), api.ErrDomain)
	faults(t, scan(div, vector(1, 0)), api.ErrZero)
	faults(t, reduce(div, vector(1, 0)), api.ErrZero)
}

// Of an outer product, kinds tell ahead of the shape, and the shape ahead of elements.
func TestTheOrderOfOuter(t *testing.T) {
	great, four := nums([]int{4096}, make([]int64, 4096)...), told(1, 1, 1, 1, 1, 1)
	fails(t, outer(not, text("a"), great), api.ErrArg)
	fails(t, outer(not, api.Array{}, great), api.ErrArg)
	fails(t, outer(add, api.Array{}, text("a")), api.ErrArray)
	fails(t, outer(add, text("a"), api.Array{}), api.ErrArray)
	fails(t, outer(add, great, told(2, 97, 2)), api.ErrDomain)
	fails(t, outer(add, told(2, 97, 1, 1, 1, 1), four), api.ErrDomain)
	fails(t, outer(eq, told(2, 97, 1, 1, 1, 1), four), api.ErrLimit)
	fails(t, outer(div, vector(1, 2), great), api.ErrLimit)
	fails(t, outer(div, great, vector(0, 0)), api.ErrLimit)
	faults(t, outer(div, vector(1), great), api.ErrZero)
}

// Of an inner product, lengths tell ahead of kinds, these ahead of the shape, and the shape ahead of elements.
func TestTheOrderOfInner(t *testing.T) {
	a, b := nums([]int{4096, 1}, make([]int64, 4096)...), nums([]int{1, 2}, 0, 0)
	fails(t, inner(add, not, text("ab", 2), vector(1)), api.ErrArg)
	fails(t, inner(not, add, text("ab", 2), api.Array{}), api.ErrArg)
	fails(t, inner(add, add, text("ab", 2), nums([]int{3}, 1)), api.ErrArray)
	fails(t, inner(add, add, nums([]int{3}, 1), text("ab", 2)), api.ErrArray)
	fails(t, inner(add, add, text("ab", 2), vector(1, 2, 3)), api.ErrLength)
	fails(t, inner(add, add, vector(1, 2, 3), text("ab", 2)), api.ErrLength)
	fails(t, inner(add, div, a, told(1, 0, 2, 4)), api.ErrLength)
	fails(t, inner(add, add, told(2, 97, 1, 1, 1, 1), told(2, 97, 2, 1, 1)), api.ErrLength)
	fails(t, inner(add, add, told(2, 97, 1, 1, 1, 1), told(2, 97, 1, 1, 1)), api.ErrDomain)
	fails(t, inner(add, add, a, told(2, 97, 1, 2)), api.ErrDomain)
	fails(t, inner(add, div, a, b), api.ErrLimit)
	fails(t, inner(add, eq, told(2, 97, 1, 1, 1, 1), told(1, 1, 1, 1, 1)), api.ErrLimit)
	faults(t, inner(add, div, a, vector(0)), api.ErrZero)
	faults(t, inner(div, add, nums([]int{2, 2}, 1, 0, 1, 0), vector(0, 0)), api.ErrZero)
}
