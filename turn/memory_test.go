package turn_test

import (
	"slices"
	"sync"
	"testing"

	"quadrat/api"
	"quadrat/mold"
	"quadrat/turn"
)

// spread writes over a list, and into the room behind it.
func spread[N int | int64](l []N) {
	for i := range l {
		l[i] = 88
	}
	_ = append(l, 88, 88, 88)
}

// spreadAll writes over arrays, and into the room behind their lists.
func spreadAll(l ...api.Array) {
	for _, a := range l {
		spread(a.Shape)
		spread(a.Elems)
	}
}

// roomy is a list with room for others behind it, where 55 stands.
func roomy[N int | int64](l ...N) []N {
	return append(slices.Clone(l), slices.Repeat([]N{55}, 8)...)[:len(l)]
}

// intact fails unless a list has what is asked for, and its room what roomy left there.
func intact[N int | int64](t *testing.T, what string, l, asked []N) {
	t.Helper()
	if !slices.Equal(l, asked) || !slices.Equal(l[len(l):len(l)+8], slices.Repeat([]N{55}, 8)) {
		t.Errorf("%s: the argument is %v, and its room %v", what, l, l[len(l):len(l)+8])
	}
}

// given is an equal array with room behind its lists.
func given(a api.Array) api.Array {
	return api.Array{Kind: a.Kind, Shape: roomy(a.Shape...), Elems: roomy(a.Elems...)}
}

// unchanged fails unless an array that given answered is as it was.
func unchanged(t *testing.T, what string, a, was api.Array) {
	t.Helper()
	intact(t, what+": shape", a.Shape, was.Shape)
	intact(t, what+": elements", a.Elems, was.Elems)
}

// onlyReads fails unless a call of two arrays leaves them alone, and answers new memory each time.
func onlyReads(t *testing.T, name string, call func(l, a api.Array) (api.Array, api.Errno), l, a, asked api.Array) {
	t.Helper()
	x, y := given(l), given(a)
	first, e := call(x, y)
	want(t, name, e, api.OK)
	second, _ := call(x, y)
	is(t, name, first, asked)
	spreadAll(first)
	unchanged(t, name+", the first argument behind a change of the answer", x, l)
	unchanged(t, name+", the second argument behind a change of the answer", y, a)
	is(t, name+", another answer", second, asked)
	spreadAll(x, y)
	is(t, name+", behind a change of the arguments", second, asked)
}

// besides are other numbers that go with an array of that shape, for each function that takes such. (An array without elements may have more rows than there may be amounts.)
func besides(name string, shape []int) []api.Array {
	if name == "Permute" {
		return orders(len(shape))
	}
	l := []api.Array{number(0), number(1), number(-5), number(least)}
	if len(shape) > 1 && countOf(shape[:len(shape)-1]) >= 0 {
		l = append(l, told(1, -1, shape[:len(shape)-1]...), told(1, greatest-5000, shape[:len(shape)-1]...))
	}
	return l
}

func TestCallsOfOneArrayOnlyRead(t *testing.T) {
	for name, c := range ofOne() {
		for _, shape := range fewShapes() {
			for kind := 1; kind <= 2; kind++ {
				a := told(kind, 97, shape...)
				onlyReads(t, name, func(_, a api.Array) (api.Array, api.Errno) { return c.f(a) }, vector(1), a, c.m(shape).array(a))
			}
		}
	}
}

func TestCallsOfTwoArraysOnlyRead(t *testing.T) {
	for name, c := range ofTwo() {
		for _, shape := range fewShapes() {
			for _, l := range besides(name, shape) {
				a := told(1, 1, shape...)
				onlyReads(t, name, c.f, l, a, c.m(l, shape).array(a))
			}
		}
	}
}

// An array that is used twice, as both arguments, is read as any other one.
func TestCallsOfAnArrayWithItself(t *testing.T) {
	for name, was := range map[string]api.Array{"Rotate": number(5), "Permute": vector(1)} {
		a := given(was)
		got, e := ofTwo()[name].f(a, a)
		want(t, name, e, api.OK)
		is(t, name, got, was)
		spreadAll(got)
		unchanged(t, name, a, was)
	}
}

// stays fails unless a gather map is the model's, whatever becomes of what it was made of, of its own shape, and of another map of the same.
func stays(t *testing.T, name string, way func(l api.Array, shape []int) (mold.Way, api.Errno), l api.Array, shape []int, m model) {
	t.Helper()
	list, lengths := given(l), roomy(shape...)
	one, e := way(list, lengths)
	want(t, name, e, api.OK)
	two, _ := way(list, lengths)
	three, _ := way(list, lengths)
	spread(one.Shape)
	unchanged(t, name+", the list", list, l)
	intact(t, name+", the shape", lengths, shape)
	maps(t, name+", behind a change of another one", two, e, m)
	spreadAll(list)
	spread(lengths)
	maps(t, name+", behind a change of what it was made of", two, e, m)
	maps(t, name+", behind a change of its own shape", mold.Way{Shape: three.Shape, At: one.At}, e, m)
	a := told(1, 1, shape...)
	goes(t, name, two, m.array(a), a)
}

func TestMapsAreIndependent(t *testing.T) {
	for _, shape := range fewShapes() {
		for name, c := range ofOne() {
			stays(t, name, func(_ api.Array, shape []int) (mold.Way, api.Errno) { return c.way(shape) }, vector(1), shape, c.m(shape))
		}
		for name, c := range ofTwo() {
			for _, l := range besides(name, shape) {
				stays(t, name, c.way, l, shape, c.m(l, shape))
			}
		}
	}
}

// Calls that answer an error leave their arguments alone as well.
func TestErrorsOnlyRead(t *testing.T) {
	a, b, c, d := given(vector(-1, 2, 2)), given(text("abc", 3)), given(told(1, 1, 2, 2)), given(nums([]int{2}, 1))
	fails(t, "Rotate", a, b, api.ErrRank)
	fails(t, "Rotate", a, c, api.ErrLength)
	fails(t, "Rotate", b, c, api.ErrLength)
	fails(t, "Permute", b, a, api.ErrDomain)
	fails(t, "Permute", a, c, api.ErrLength)
	fails(t, "Permute", c, b, api.ErrRank)
	fails(t, "Permute", d, c, api.ErrArray)
	one(t, "Reverse", d)
	one(t, "Transpose", d)
	unchanged(t, "a", a, vector(-1, 2, 2))
	unchanged(t, "b", b, text("abc", 3))
	unchanged(t, "c", c, told(1, 1, 2, 2))
	unchanged(t, "d", d, nums([]int{2}, 1))
}

// A map may be asked by several at once, and in any order.
func TestMapsHaveNoMemory(t *testing.T) {
	reverse, _ := turn.ReverseWay([]int{2, 3, 2})
	transpose, _ := turn.TransposeWay([]int{2, 3, 2})
	rotate, _ := turn.RotateWay(told(1, -2, 2, 3), []int{2, 3, 2})
	permute, _ := turn.PermuteWay(vector(2, 3, 1), []int{2, 3, 2})
	var w sync.WaitGroup
	for range 4 {
		w.Go(func() {
			for n := 11; n >= 0; n-- {
				_, _ = reverse.At(n)
				maps(t, "ReverseWay", reverse, api.OK, reversed([]int{2, 3, 2}))
				maps(t, "TransposeWay", transpose, api.OK, transposed([]int{2, 3, 2}))
				maps(t, "RotateWay", rotate, api.OK, rotated(told(1, -2, 2, 3), []int{2, 3, 2}))
				maps(t, "PermuteWay", permute, api.OK, permuted(vector(2, 3, 1), []int{2, 3, 2}))
			}
		})
	}
	w.Wait()
}

// A map has no source for what is no position of its shape, and does not panic there.
func TestMapsAskedElsewhere(t *testing.T) {
	for _, shape := range fewShapes() {
		for name, c := range ofOne() {
			w, e := c.way(shape)
			want(t, name, e, api.OK)
			askedElsewhere(t, name, w)
		}
		for name, c := range ofTwo() {
			for _, l := range besides(name, shape) {
				w, e := c.way(l, shape)
				want(t, name, e, api.OK)
				askedElsewhere(t, name, w)
			}
		}
	}
}

// askedElsewhere fails unless a map answers no array's element for what is no position of its shape.
func askedElsewhere(t *testing.T, what string, w mold.Way) {
	t.Helper()
	count := countOf(w.Shape)
	for _, n := range []int{-1, -2, count, count + 1, 4096, least, greatest} {
		if n >= 0 && n < count {
			continue
		}
		if of, place := w.At(n); of != -1 || place != 0 {
			t.Errorf("%s: position %d of %v comes from %d, %d", what, n, w.Shape, of, place)
		}
	}
}
