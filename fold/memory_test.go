package fold_test

import (
	"slices"
	"sync"
	"testing"

	"quadrat/api"
	"quadrat/fold"
)

// spread writes over a list, and into the room behind it.
func spread[N int | int64](l []N) {
	for i := range l {
		l[i] = 88
	}
	_ = append(l, 88, 88, 88)
}

// spreadAll writes over arrays, and into the room behind their lists.
func spreadAll(l ...api.Array) {
	for _, a := range l {
		spread(a.Shape)
		spread(a.Elems)
	}
}

// roomy is a list with room for others behind it, where 55 stands.
func roomy[N int | int64](l ...N) []N {
	return append(slices.Clone(l), slices.Repeat([]N{55}, 8)...)[:len(l)]
}

// intact fails unless a list has what is asked for, and its room what roomy left there.
func intact[N int | int64](t *testing.T, what string, l, asked []N) {
	t.Helper()
	if !slices.Equal(l, asked) || !slices.Equal(l[len(l):len(l)+8], slices.Repeat([]N{55}, 8)) {
		t.Errorf("%s: the argument is %v, and its room %v", what, l, l[len(l):len(l)+8])
	}
}

// given is an equal array with room behind its lists.
func given(a api.Array) api.Array {
	return api.Array{Kind: a.Kind, Shape: roomy(a.Shape...), Elems: roomy(a.Elems...)}
}

// unchanged fails unless an array that given answered is as it was.
func unchanged(t *testing.T, what string, a, was api.Array) {
	t.Helper()
	if a.Kind != was.Kind {
		t.Errorf("%s: of kind %d", what, a.Kind)
	}
	intact(t, what+": shape", a.Shape, was.Shape)
	intact(t, what+": elements", a.Elems, was.Elems)
}

// builder makes a call of two arrays, of which some take the first one alone.
type builder func(a, b api.Array) call

// builders are those of all functions of arrays.
func builders(f, g int) []builder {
	return []builder{
		func(a, _ api.Array) call { return reduce(f, a) },
		func(a, _ api.Array) call { return scan(f, a) },
		func(a, b api.Array) call { return outer(f, a, b) },
		func(a, b api.Array) call { return inner(f, g, a, b) },
	}
}

// onlyReads fails unless a call leaves its arrays alone, and answers new memory each time, be it a shape or an array.
func onlyReads(t *testing.T, of builder, a, b api.Array) {
	t.Helper()
	x, y := given(a), given(b)
	c := of(x, y)
	asked, e := of(a, b).m.array()
	first, fault := c.f()
	want(t, c.name, fault, e)
	second, _ := c.f()
	spreadAll(first)
	unchanged(t, c.name+", the first argument behind a change of the answer", x, a)
	unchanged(t, c.name+", the second argument behind a change of the answer", y, b)
	is(t, c.name+", another answer", second, asked)
	if c.shape != nil {
		shapeOnlyReads(t, c, of(a, b).m.shape, [2]api.Array{x, y}, [2]api.Array{a, b})
	}
	spreadAll(x, y)
	is(t, c.name+", behind a change of the arguments", second, asked)
}

// shapeOnlyReads fails unless the function of a call's shape leaves its arrays alone, and answers new memory each time; then it writes over the arrays.
func shapeOnlyReads(t *testing.T, c call, asked []int, l, was [2]api.Array) {
	t.Helper()
	first, _, _ := c.shape()
	second, _, _ := c.shape()
	spread(first)
	unchanged(t, c.name+", the first argument behind a change of the shape", l[0], was[0])
	unchanged(t, c.name+", the second argument behind a change of the shape", l[1], was[1])
	spreadAll(l[0], l[1])
	if !slices.Equal(second, asked) {
		t.Errorf("%s: another shape is %v, want %v", c.name, second, asked)
	}
}

func TestArraysAreOnlyRead(t *testing.T) {
	for _, shape := range fewShapes() {
		for _, of := range [][2]int{{add, mul}, {maximum, sub}, {and, eq}, {ne, ne}, {div, pow}} {
			for _, build := range builders(of[0], of[1]) {
				for _, other := range []api.Array{number(1), vector(2), vector(), told(1, 1, 2), told(2, 97, 3), told(1, 1, 3, 2), nums([]int{0, 2}), number(0)} {
					for kind := 1; kind <= 2; kind++ {
						a := told(kind, 1, shape...)
						onlyReads(t, build, a, other)
						onlyReads(t, build, other, a)
					}
				}
			}
		}
	}
}

// An array that is used twice, as both arguments, is read as any other one.
func TestAnArrayWithItself(t *testing.T) {
	for _, was := range []api.Array{number(3), vector(2, 1, 2), told(1, 1, 2, 2), told(2, 97, 2, 2), text("abc", 3)} {
		for _, build := range builders(add, eq) {
			a := given(was)
			one(t, build(a, a))
			got, _ := build(a, a).f()
			spreadAll(got)
			unchanged(t, build(was, was).name, a, was)
		}
	}
	makes(t, inner(add, mul, vector(2, 1, 2), vector(2, 1, 2)), number(9))
}

// A result that is equal to an argument has memory of its own all the same.
func TestAnswersAreNewMemory(t *testing.T) {
	for _, was := range []api.Array{number(7), vector(5), told(1, 1, 3, 1), told(1, 1, 1, 1, 1, 1)} {
		a := given(was)
		for _, f := range []func() (api.Array, api.Errno){
			func() (api.Array, api.Errno) { return fold.Scan(mul, a) },
			func() (api.Array, api.Errno) { return fold.Outer(mul, a, number(1)) },
			func() (api.Array, api.Errno) { return fold.Outer(mul, number(1), a) },
		} {
			got, e := f()
			want(t, short(was), e, api.OK)
			is(t, short(was), got, was)
			spreadAll(got)
			unchanged(t, short(was), a, was)
		}
	}
	a := given(number(7))
	got, e := fold.Reduce(mul, a)
	want(t, "Reduce of a scalar", e, api.OK)
	spreadAll(got)
	unchanged(t, "Reduce of a scalar", a, number(7))
	got, e = fold.Inner(mul, mul, a, number(1))
	want(t, "Inner of scalars", e, api.OK)
	spreadAll(got)
	unchanged(t, "Inner of scalars", a, number(7))
}

// Arrays may be read by several calls at once.
func TestCallsAtOnce(t *testing.T) {
	a, b := told(1, 1, 2, 3), told(1, 1, 3, 2)
	var w sync.WaitGroup
	for _, build := range builders(sub, sub) {
		for range 4 {
			w.Go(func() { one(t, build(a, b)) })
		}
	}
	w.Wait()
}
