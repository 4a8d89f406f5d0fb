package scalar_test

import (
	"slices"
	"testing"

	"quadrat/api"
	"quadrat/scalar"
)

// The chapter's examples.
func TestExamplesOfArrays(t *testing.T) {
	maps(t, api.FnAdd, vector(1, 2), nums(nil, 10), vector(11, 12))
	fails(t, api.FnAdd, vector(1, 2), vector(1, 2, 3), api.ErrLength)
	maps(t, api.FnEq, text("ab"), text("xb"), vector(0, 1))
	fails(t, api.FnLt, chars(nil, 'a'), nums(nil, 1), api.ErrDomain)
}

func TestMapOneOfEachFunction(t *testing.T) {
	l := edges()
	for _, f := range unary {
		asked, given := vector(), vector()
		for _, y := range l {
			if a := oneOf(f, y); a.e == api.OK {
				given.Elems, asked.Elems = append(given.Elems, y), append(asked.Elems, a.n)
			} else {
				failsOne(t, f, nums(nil, y), a.e)
				failsOne(t, f, nums([]int{1, 1, 1, 1}, y), a.e)
			}
		}
		given.Shape, asked.Shape = []int{len(given.Elems)}, []int{len(given.Elems)}
		mapsOne(t, f, given, asked)
		for i, y := range given.Elems {
			mapsOne(t, f, nums(nil, y), nums(nil, asked.Elems[i]))
			mapsOne(t, f, nums([]int{1, 1}, y), nums([]int{1, 1}, asked.Elems[i]))
		}
	}
}

func TestMapOneKeepsTheShape(t *testing.T) {
	for _, shape := range append(goodShapes(), nil, []int{}) {
		elems := many(countOf(shape))
		opposite, sign := []int64{}, []int64{}
		for _, y := range elems {
			opposite, sign = append(opposite, -y), append(sign, 1)
		}
		mapsOne(t, api.FnAdd, nums(shape, elems...), nums(shape, elems...))
		mapsOne(t, api.FnSub, nums(shape, elems...), nums(shape, opposite...))
		mapsOne(t, api.FnMul, nums(shape, elems...), nums(shape, sign...))
		mapsOne(t, api.FnRem, nums(shape, opposite...), nums(shape, elems...))
		mapsOne(t, api.FnNot, nums(shape, sign...), nums(shape, make([]int64, len(sign))...))
	}
}

func TestMapOneOfCharacters(t *testing.T) {
	for _, f := range unary {
		for _, a := range []api.Array{chars(nil, 'a'), chars(nil, 0), chars(nil, 1), text(""), text("ab"), chars([]int{0, 2}), chars([]int{1, 1}, 1)} {
			failsOne(t, f, a, api.ErrDomain)
		}
	}
}

// The error is that of the first element that has one, and nothing of those ahead of it is answered.
func TestMapOneAnswersTheFirstError(t *testing.T) {
	for _, shape := range [][]int{{8}, {2, 4}, {4, 2}, {2, 2, 2}, {1, 8, 1, 1}, {4096}} {
		count := countOf(shape)
		for at := range count {
			if count > 8 && at > 3 && at < count-3 {
				continue
			}
			a := nums(shape, make([]int64, count)...)
			mapsOne(t, api.FnSub, a, a)
			a.Elems[at] = least
			failsOne(t, api.FnSub, a, api.ErrOverflow)
			failsOne(t, api.FnRem, a, api.ErrOverflow)
			failsOne(t, api.FnNot, a, api.ErrDomain)
			a.Elems[count-1] = least
			failsOne(t, api.FnSub, a, api.ErrOverflow)
		}
	}
}

func TestMapTwoOfEachFunction(t *testing.T) {
	l := edges()
	for _, f := range binary {
		for _, x := range l {
			left, right, asked := vector(), vector(), vector()
			for _, y := range l {
				if a := twoOf(f, x, y); a.e == api.OK {
					left.Elems, right.Elems, asked.Elems = append(left.Elems, x), append(right.Elems, y), append(asked.Elems, a.n)
				} else {
					fails(t, f, nums(nil, x), vector(y), a.e)
				}
			}
			shape := []int{len(asked.Elems)}
			left.Shape, right.Shape, asked.Shape = shape, shape, shape
			maps(t, f, left, right, asked)
			maps(t, f, nums(nil, x), right, asked)
		}
	}
}

// A scalar stands with every element of the other array, on whichever side it is.
func TestScalarsStandWithEveryElement(t *testing.T) {
	for _, shape := range goodShapes() {
		elems := many(countOf(shape))
		less, more, same := []int64{}, []int64{}, []int64{}
		for _, n := range elems {
			less, more, same = append(less, n-10), append(more, 10-n), append(same, 0)
		}
		a := nums(shape, elems...)
		maps(t, api.FnSub, a, nums(nil, 10), nums(shape, less...))
		maps(t, api.FnSub, nums(nil, 10), a, nums(shape, more...))
		maps(t, api.FnSub, nums([]int{}, 10), a, nums(shape, more...))
		maps(t, api.FnSub, a, a, nums(shape, same...))
	}
	maps(t, api.FnSub, nums(nil, 10), nums(nil, 3), nums(nil, 7))
	maps(t, api.FnSub, nums([]int{}, 3), nums(nil, 10), nums(nil, -7))
	maps(t, api.FnDiv, vector(7, -7, 8), nums(nil, 2), vector(3, -4, 4))
	maps(t, api.FnDiv, nums(nil, 7), vector(2, -2, 8), vector(3, -4, 0))
	maps(t, api.FnPow, nums(nil, 2), vector(0, 1, 10), vector(1, 2, 1024))
	maps(t, api.FnPow, vector(0, 1, 10), nums(nil, 2), vector(0, 1, 100))
}

// One element with an axis is no scalar.
func TestOneElementIsNoScalar(t *testing.T) {
	one := vector(10)
	fails(t, api.FnAdd, one, vector(1, 2), api.ErrLength)
	fails(t, api.FnAdd, vector(1, 2), one, api.ErrLength)
	fails(t, api.FnAdd, one, nums([]int{1, 1}, 1), api.ErrRank)
	fails(t, api.FnAdd, one, vector(), api.ErrLength)
	maps(t, api.FnAdd, one, nums(nil, 1), vector(11))
	maps(t, api.FnAdd, nums(nil, 1), one, vector(11))
	maps(t, api.FnAdd, one, vector(1), vector(11))
	maps(t, api.FnAdd, nums([]int{1, 1, 1}, 4), nums(nil, 1), nums([]int{1, 1, 1}, 5))
}

// Where there are no elements, no function is asked for one, so there is no error of one.
func TestArraysOfNoElements(t *testing.T) {
	for _, shape := range [][]int{{0}, {0, 3}, {3, 0}, {0, 0}, {2, 0, 2}, {4096, 4096, 4096, 0}} {
		none := nums(shape)
		for _, f := range binary {
			for _, n := range []int64{0, 2, -1, least, greatest} {
				maps(t, f, none, nums(nil, n), none)
				maps(t, f, nums(nil, n), none, none)
			}
			maps(t, f, none, none, none)
			fails(t, f, none, nums([]int{0, 1}), map[bool]api.Errno{true: api.ErrLength, false: api.ErrRank}[len(shape) == 2])
		}
		for _, f := range unary {
			mapsOne(t, f, none, none)
		}
		for _, f := range []int{api.FnEq, api.FnNe} {
			maps(t, f, chars(shape), chars(nil, 'a'), none)
			maps(t, f, chars(nil, 'a'), none, none)
			maps(t, f, none, chars(shape), none)
			maps(t, f, chars(shape), chars(shape), none)
		}
		fails(t, api.FnAdd, chars(shape), nums(nil, 1), api.ErrDomain)
		fails(t, api.FnAdd, nums(nil, 1), chars(shape), api.ErrDomain)
		fails(t, api.FnLt, none, chars(shape), api.ErrDomain)
	}
}

func TestCharactersInArrays(t *testing.T) {
	maps(t, api.FnNe, text("ab"), text("xb"), vector(1, 0))
	maps(t, api.FnEq, text("abab"), chars(nil, 'a'), vector(1, 0, 1, 0))
	maps(t, api.FnNe, chars(nil, 'b'), text("abab"), vector(1, 0, 1, 0))
	maps(t, api.FnEq, chars([]int{2, 2}, 'a', 'b', 'c', 'd'), chars([]int{2, 2}, 'a', 'c', 'b', 'd'), nums([]int{2, 2}, 1, 0, 0, 1))
	maps(t, api.FnEq, chars(nil, 'a'), chars(nil, 'a'), nums(nil, 1))
	maps(t, api.FnEq, text("ab"), vector(97, 98), vector(0, 0))
	maps(t, api.FnEq, vector(97, 98), text("ab"), vector(0, 0))
	maps(t, api.FnNe, text("ab"), vector(97, 98), vector(1, 1))
	maps(t, api.FnNe, nums(nil, 97), text("ab"), vector(1, 1))
	maps(t, api.FnEq, text("ab"), nums(nil, 97), vector(0, 0))
	maps(t, api.FnEq, chars(nil, 1), nums(nil, 1), nums(nil, 0))
	for _, f := range binary {
		if f == api.FnEq || f == api.FnNe {
			continue
		}
		for _, c := range [][2]api.Array{{text("ab"), text("ab")}, {text("ab"), vector(1, 0)}, {vector(1, 0), text("ab")}, {chars(nil, 1), nums(nil, 1)}, {nums(nil, 0), chars(nil, 0)}, {chars([]int{1}, 1), chars(nil, 1)}} {
			fails(t, f, c[0], c[1], api.ErrDomain)
		}
	}
}

// The error is that of the first pair that has one, by its position; those behind it have others.
func TestMapTwoAnswersTheFirstError(t *testing.T) {
	fails(t, api.FnDiv, vector(1, 2, least), vector(1, 0, -1), api.ErrZero)
	fails(t, api.FnDiv, vector(1, least, 2), vector(1, -1, 0), api.ErrOverflow)
	fails(t, api.FnDiv, nums(nil, least), vector(2, -1, 0), api.ErrOverflow)
	fails(t, api.FnDiv, nums(nil, least), vector(2, 0, -1), api.ErrZero)
	fails(t, api.FnPow, vector(2, 0, 2), vector(62, -1, 63), api.ErrDomain)
	fails(t, api.FnPow, vector(2, 2, 0), vector(62, 63, -1), api.ErrOverflow)
	fails(t, api.FnPow, vector(-1, -3, 2), nums(nil, -5), api.ErrDomain)
	fails(t, api.FnPow, nums(nil, 10), vector(18, -1, 19), api.ErrDomain)
	fails(t, api.FnPow, nums(nil, 10), vector(18, 19, -1), api.ErrOverflow)
	for _, shape := range [][]int{{8}, {2, 4}, {4, 2}, {2, 2, 2}, {8, 1, 1, 1}, {1, 4, 2, 1}} {
		for first := range 8 {
			for second := range first {
				x, y := nums(shape, slices.Repeat([]int64{least}, 8)...), nums(shape, slices.Repeat([]int64{2}, 8)...)
				y.Elems[first], y.Elems[second] = -1, 0
				fails(t, api.FnDiv, x, y, api.ErrZero)
				fails(t, api.FnDiv, nums(nil, least), y, api.ErrZero)
				y.Elems[first], y.Elems[second] = 0, -1
				fails(t, api.FnDiv, x, y, api.ErrOverflow)
				fails(t, api.FnDiv, nums(nil, least), y, api.ErrOverflow)
			}
		}
	}
}

// randomArray is a valid array of numbers in that shape.
func randomArray(r *noise, shape []int) api.Array {
	a := nums(shape)
	for range countOf(shape) {
		n := r.number()
		if r.below(2) == 0 {
			n >>= 40
		}
		a.Elems = append(a.Elems, n)
	}
	return a
}

// Each element is the function of the two at its position, and the error is that of the first one that has one.
func TestElementsAreThoseOfTwo(t *testing.T) {
	r := noise(9)
	shapes := [][]int{nil, {1}, {3}, {2, 3}, {1, 2, 2}, {2, 1, 2, 1}}
	results, errors := 0, 0
	for range 20_000 {
		shape := shapes[r.below(len(shapes))]
		f, a, b := binary[r.below(len(binary))], randomArray(&r, shape), randomArray(&r, shape)
		switch r.below(3) {
		case 0:
			a = randomArray(&r, nil)
		case 1:
			b = randomArray(&r, nil)
		}
		asked, error := nums(shape), api.OK
		for i := range countOf(shape) {
			n := twoOf(f, a.Elems[i%len(a.Elems)], b.Elems[i%len(b.Elems)])
			if asked.Elems, error = append(asked.Elems, n.n), n.e; error != api.OK {
				break
			}
		}
		if len(a.Shape) == 0 && len(b.Shape) == 0 {
			asked.Shape = nil
		}
		if error != api.OK {
			fails(t, f, a, b, error)
			errors++
		} else {
			maps(t, f, a, b, asked)
			results++
		}
	}
	if results < 1000 || errors < 1000 {
		t.Errorf("%d results, %d errors", results, errors)
	}
}

// Another element at one position changes the result there, and nowhere else.
func TestElementsHangOnTheirPositionAlone(t *testing.T) {
	shape := []int{2, 2, 3}
	a, b := nums(shape, many(12)...), nums(shape, slices.Repeat([]int64{3}, 12)...)
	for _, f := range []int{api.FnAdd, api.FnSub, api.FnMul, api.FnDiv, api.FnRem, api.FnMin, api.FnMax, api.FnPow, api.FnEq, api.FnNe, api.FnLt, api.FnLe, api.FnGe, api.FnGt} {
		before, e := scalar.MapTwo(f, a, b)
		want(t, "MapTwo", e, api.OK)
		for i := range 12 {
			for _, n := range []int64{1, 3, 5} {
				x, y := nums(shape, slices.Clone(a.Elems)...), nums(shape, slices.Clone(b.Elems)...)
				x.Elems[i], y.Elems[i] = n, 7-n
				asked := nums(shape, slices.Clone(before.Elems)...)
				asked.Elems[i] = twoOf(f, n, 7-n).n
				maps(t, f, x, y, asked)
			}
		}
	}
	for _, f := range []int{api.FnAdd, api.FnSub, api.FnMul, api.FnRem} {
		before, e := scalar.MapOne(f, a)
		want(t, "MapOne", e, api.OK)
		for i := range 12 {
			x := nums(shape, slices.Clone(a.Elems)...)
			x.Elems[i] = -9
			asked := nums(shape, slices.Clone(before.Elems)...)
			asked.Elems[i] = oneOf(f, -9).n
			mapsOne(t, f, x, asked)
		}
	}
}
