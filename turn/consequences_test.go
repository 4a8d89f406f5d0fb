package turn_test

import (
	"math/big"
	"testing"

	"quadrat/api"
	"quadrat/turn"
)

// must is an answer that has no error.
func must(t *testing.T) func(a api.Array, e api.Errno) api.Array {
	t.Helper()
	return func(a api.Array, e api.Errno) api.Array {
		t.Helper()
		want(t, "the call", e, api.OK)
		return a
	}
}

// arrays are arrays of each shape that is valid, and of both kinds.
func arrays() []api.Array {
	var l []api.Array
	for _, shape := range goodShapes() {
		l = append(l, told(1, -3, shape...), told(2, 97, shape...))
	}
	return l
}

// Reversing twice, or transposing twice, yields the array.
func TestTwiceIsNotAtAll(t *testing.T) {
	for name, c := range ofOne() {
		for _, a := range arrays() {
			again := must(t)(c.f(must(t)(c.f(a))))
			is(t, name+" twice", again, a)
		}
	}
}

// Both maps, one behind the other, lead back to each place as well.
func TestMapsTwiceAreNoneAtAll(t *testing.T) {
	for name, c := range ofOne() {
		for _, shape := range fewShapes() {
			there, e := c.way(shape)
			want(t, name, e, api.OK)
			back, e := c.way(there.Shape)
			want(t, name, e, api.OK)
			for n := range countOf(shape) {
				_, place := back.At(n)
				if _, place = there.At(place); place != n {
					t.Errorf("%s of %v twice: position %d comes from %d", name, shape, n, place)
				}
			}
		}
	}
}

// summed are amounts of rows, each with its other one, and whether all the sums are numbers of 64 bits.
func summed(one, other api.Array) (sums api.Array, fit bool) {
	sums, fit = nums(one.Shape), true
	for i := range one.Elems {
		sum := new(big.Int).Add(big.NewInt(one.Elems[i]), big.NewInt(other.Elems[i]))
		sums.Elems, fit = append(sums.Elems, sum.Int64()), fit && sum.IsInt64()
	}
	return sums, fit
}

// Rotating by one amount and then by another is rotating by their sum.
func TestRotatingTwice(t *testing.T) {
	l := []int64{0, 1, -1, 2, -2, 3, 5, -7, 4096, 1 << 40, -1 << 62, 1 << 62, greatest, greatest - 1, least, least + 1}
	for _, a := range arrays() {
		if len(a.Elems) > 200 {
			continue
		}
		for _, one := range l {
			for _, other := range l {
				if sum, fit := summed(number(one), number(other)); fit {
					twice := must(t)(turn.Rotate(number(other), must(t)(turn.Rotate(number(one), a))))
					is(t, "Rotate twice", twice, must(t)(turn.Rotate(sum, a)))
				}
			}
		}
	}
}

// Amounts of each row are added row by row.
func TestRotatingEachRowTwice(t *testing.T) {
	r, fitting := noise(7), 0
	for range 3000 {
		shape := append(r.shape(), 1+r.below(6))
		if len(shape) < 2 || len(shape) > 4 {
			continue
		}
		a := told(1, 1, shape...)
		one, other := nums(shape[:len(shape)-1]), nums(shape[:len(shape)-1])
		for range countOf(one.Shape) {
			one.Elems, other.Elems = append(one.Elems, r.amount()), append(other.Elems, r.amount())
		}
		if sums, fit := summed(one, other); fit {
			twice := must(t)(turn.Rotate(other, must(t)(turn.Rotate(one, a))))
			is(t, "Rotate twice", twice, must(t)(turn.Rotate(sums, a)))
			fitting++
		}
	}
	if fitting < 500 {
		t.Errorf("only %d sums are numbers of 64 bits", fitting)
	}
}

// A sum that is none of 64 bits' numbers is another amount, but both amounts, one behind the other, still do what they do.
func TestRotatingTwiceBeyondAllNumbers(t *testing.T) {
	a := vector(1, 2, 3, 4, 5, 6, 7)
	for _, c := range [][2]int64{{greatest, greatest}, {least, least}, {greatest, 1}, {least, -1}, {1 << 62, 1 << 62}, {-1<<62 - 1, -1 << 62}} {
		sum := new(big.Int).Add(big.NewInt(c[0]), big.NewInt(c[1]))
		asked := number(sum.Mod(sum, big.NewInt(7)).Int64())
		twice := must(t)(turn.Rotate(number(c[1]), must(t)(turn.Rotate(number(c[0]), a))))
		is(t, "Rotate twice", twice, must(t)(turn.Rotate(asked, a)))
	}
	twice := must(t)(turn.Rotate(number(greatest), must(t)(turn.Rotate(number(greatest), a))))
	is(t, "Rotate by the greatest number twice", twice, a)
	if wrapped := must(t)(turn.Rotate(number(-2), a)); wrapped.Elems[0] != 6 {
		t.Errorf("Rotate by -2: %v", wrapped)
	}
}

// Rotating by the rows' length yields the array, and so does rotating there and back.
func TestRotatingAllTheWay(t *testing.T) {
	for _, a := range arrays() {
		length := int64(1)
		if len(a.Shape) > 0 {
			length = int64(a.Shape[len(a.Shape)-1])
		}
		is(t, "Rotate by the length", must(t)(turn.Rotate(number(length), a)), a)
		is(t, "Rotate back by the length", must(t)(turn.Rotate(number(-length), a)), a)
		if len(a.Shape) > 1 {
			each := nums(a.Shape[:len(a.Shape)-1])
			if countOf(each.Shape) < 0 {
				continue
			}
			for range countOf(each.Shape) {
				each.Elems = append(each.Elems, length)
			}
			is(t, "Rotate each row by its length", must(t)(turn.Rotate(each, a)), a)
		}
	}
}

// Two permutations one after the other are the one that both make: the second one says where the axes go that the first one has put.
func TestPermutingTwice(t *testing.T) {
	for _, shape := range fewShapes() {
		a := told(1, 1, shape...)
		for _, one := range orders(len(shape)) {
			for _, other := range orders(len(shape)) {
				made := vector()
				for _, n := range one.Elems {
					made.Elems = append(made.Elems, other.Elems[n-1])
				}
				made.Shape = []int{len(shape)}
				twice := must(t)(turn.Permute(other, must(t)(turn.Permute(one, a))))
				is(t, "Permute twice", twice, must(t)(turn.Permute(made, a)))
			}
		}
	}
}

// Transposing is permuting by the axes in reverse, and the order as it is changes nothing.
func TestPermutingInReverse(t *testing.T) {
	for _, a := range arrays() {
		order, reverse := vector(many(1, len(a.Shape))...), vector(many(1, len(a.Shape))...)
		for i := range reverse.Elems {
			reverse.Elems[i] = int64(len(a.Shape) - i)
		}
		is(t, "Permute by the order as it is", must(t)(turn.Permute(order, a)), a)
		is(t, "Permute by the axes in reverse", must(t)(turn.Permute(reverse, a)), must(t)(turn.Transpose(a)))
	}
}

// A reversed row that is rotated one way is the row, rotated the other way and reversed.
func TestReverseAndRotate(t *testing.T) {
	for _, a := range arrays() {
		for _, n := range []int64{0, 1, -1, 2, 3, -4096, 1 << 40, greatest, least + 1} {
			x := must(t)(turn.Rotate(number(n), must(t)(turn.Reverse(a))))
			y := must(t)(turn.Reverse(must(t)(turn.Rotate(number(-n), a))))
			is(t, "Rotate and Reverse", x, y)
		}
	}
}
