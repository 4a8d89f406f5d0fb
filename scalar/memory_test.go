package scalar_test

import (
	"slices"
	"testing"

	"quadrat/api"
	"quadrat/scalar"
)

// spread writes over a list, and into the room behind it.
func spread[N int | int64](l []N) {
	for i := range l {
		l[i] = 88
	}
	_ = append(l, 88, 88, 88)
}

// roomy is a list with room for others behind it, where 55 stands.
func roomy[N int | int64](l ...N) []N {
	return append(slices.Clone(l), slices.Repeat([]N{55}, 8)...)[:len(l)]
}

// intact fails unless a list has what is asked for, and its room what roomy left there.
func intact[N int | int64](t *testing.T, what string, l, asked []N) {
	t.Helper()
	if !slices.Equal(l, asked) || !slices.Equal(l[len(l):len(l)+8], slices.Repeat([]N{55}, 8)) {
		t.Errorf("%s: the argument is %v, and its room %v", what, l, l[len(l):len(l)+8])
	}
}

// given is an array with room behind its lists.
func given(kind int, shape []int, elems ...int64) api.Array {
	return api.Array{Kind: kind, Shape: roomy(shape...), Elems: roomy(elems...)}
}

// unchanged fails unless an array that given answered is as it was.
func unchanged(t *testing.T, what string, a api.Array, shape []int, elems ...int64) {
	t.Helper()
	intact(t, what+": shape", a.Shape, shape)
	intact(t, what+": elements", a.Elems, elems)
}

func TestTogetherOnlyReads(t *testing.T) {
	for _, c := range [][3][]int{{{2, 3}, {2, 3}, {2, 3}}, {nil, {2, 3}, {2, 3}}, {{2, 3}, nil, {2, 3}}, {nil, nil, nil}, {{4}, {4}, {4}}, {{0}, nil, {0}}} {
		a, b := roomy(c[0]...), roomy(c[1]...)
		one, e := scalar.Together(a, b)
		want(t, "Together", e, api.OK)
		two, e := scalar.Together(a, b)
		want(t, "Together", e, api.OK)
		spread(one)
		intact(t, "the left shape, behind a change of the answer", a, c[0])
		intact(t, "the right shape, behind a change of the answer", b, c[1])
		if !slices.Equal(two, c[2]) {
			t.Errorf("another answer is %v", two)
		}
		spread(a)
		spread(b)
		if !slices.Equal(two, c[2]) {
			t.Errorf("behind a change of the arguments, the answer is %v", two)
		}
	}
	shape := roomy(2, 3)
	one, _ := scalar.Together(shape, shape)
	spread(one)
	intact(t, "a shape with itself", shape, []int{2, 3})
}

func TestMapOneOnlyReads(t *testing.T) {
	for _, shape := range [][]int{nil, {1}, {0}, {2, 3}, {2, 1, 2, 1}} {
		elems := many(countOf(shape))
		for _, f := range []int{api.FnAdd, api.FnRem} {
			a := given(1, shape, elems...)
			one, e := scalar.MapOne(f, a)
			want(t, "MapOne", e, api.OK)
			two, _ := scalar.MapOne(f, a)
			spread(one.Shape)
			spread(one.Elems)
			unchanged(t, "behind a change of the answer", a, shape, elems...)
			is(t, "another answer", two, nums(shape, elems...))
			spread(a.Shape)
			spread(a.Elems)
			is(t, "behind a change of the argument", two, nums(shape, elems...))
		}
	}
}

func TestMapTwoOnlyReads(t *testing.T) {
	shape := []int{2, 3}
	for _, c := range [][2][]int{{shape, shape}, {nil, shape}, {shape, nil}, {nil, nil}, {{0}, {0}}, {{0}, nil}, {{1}, nil}} {
		ofA, ofB := many(countOf(c[0])), many(countOf(c[1]))
		for _, f := range []int{api.FnMin, api.FnMul, api.FnEq} {
			a, b := given(1, c[0], ofA...), given(1, c[1], ofB...)
			one, e := scalar.MapTwo(f, a, b)
			want(t, "MapTwo", e, api.OK)
			two, _ := scalar.MapTwo(f, a, b)
			asked := api.Array{Kind: one.Kind, Shape: slices.Clone(one.Shape), Elems: slices.Clone(one.Elems)}
			spread(one.Shape)
			spread(one.Elems)
			unchanged(t, "the left array, behind a change of the answer", a, c[0], ofA...)
			unchanged(t, "the right array, behind a change of the answer", b, c[1], ofB...)
			is(t, "another answer", two, asked)
			for _, x := range []api.Array{a, b} {
				spread(x.Shape)
				spread(x.Elems)
			}
			is(t, "behind a change of the arguments", two, asked)
		}
	}
}

// An array that is combined with itself is read as any other one.
func TestMapTwoOfAnArrayWithItself(t *testing.T) {
	a := given(1, []int{2, 2}, 1, 2, 3, 4)
	one, e := scalar.MapTwo(api.FnMul, a, a)
	want(t, "MapTwo", e, api.OK)
	is(t, "MapTwo", one, nums([]int{2, 2}, 1, 4, 9, 16))
	spread(one.Shape)
	spread(one.Elems)
	unchanged(t, "behind a change of the answer", a, []int{2, 2}, 1, 2, 3, 4)
}

// Calls that answer an error leave their arguments alone as well.
func TestErrorsOnlyRead(t *testing.T) {
	a, b := given(1, []int{3}, 1, least, 3), given(1, []int{3}, 1, -1, 0)
	c, d := given(2, []int{2}, 97, 98), given(1, []int{2, 2}, 1, 2, 3)
	fails(t, api.FnDiv, a, b, api.ErrOverflow)
	fails(t, api.FnDiv, a, c, api.ErrLength)
	fails(t, api.FnAdd, c, c, api.ErrDomain)
	fails(t, api.FnAdd, d, a, api.ErrArray)
	failsOne(t, api.FnSub, a, api.ErrOverflow)
	failsOne(t, api.FnNot, b, api.ErrDomain)
	together(t, a.Shape, d.Shape, nil, api.ErrRank)
	unchanged(t, "a", a, []int{3}, 1, least, 3)
	unchanged(t, "b", b, []int{3}, 1, -1, 0)
	unchanged(t, "c", c, []int{2}, 97, 98)
	unchanged(t, "d", d, []int{2, 2}, 1, 2, 3)
}

// What one call answers is none of the next one's, whatever was written over it.
func TestAnswersAreNotKept(t *testing.T) {
	for range 3 {
		one, _ := scalar.MapTwo(api.FnAdd, vector(1, 2), nums(nil, 3))
		is(t, "MapTwo", one, vector(4, 5))
		two, _ := scalar.MapOne(api.FnSub, one)
		is(t, "MapOne", two, vector(-4, -5))
		for _, x := range []api.Array{one, two} {
			spread(x.Shape)
			spread(x.Elems)
		}
		if n, e := scalar.Identity(api.FnMin); n != greatest || e != api.OK || scalar.Glyph(api.FnMul) != "×" {
			t.Errorf("Identity and Glyph: %d, %d and %q", n, e, scalar.Glyph(api.FnMul))
		}
	}
}
