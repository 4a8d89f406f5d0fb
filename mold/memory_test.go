package mold_test

import (
	"slices"
	"sync"
	"testing"

	"quadrat/api"
	"quadrat/mold"
)

// spread writes over a list, and into the room behind it.
func spread[N int | int64](l []N) {
	for i := range l {
		l[i] = 88
	}
	_ = append(l, 88, 88, 88)
}

// spreadAll writes over arrays, and into the room behind their lists.
func spreadAll(l ...api.Array) {
	for _, a := range l {
		spread(a.Shape)
		spread(a.Elems)
	}
}

// roomy is a list with room for others behind it, where 55 stands.
func roomy[N int | int64](l ...N) []N {
	return append(slices.Clone(l), slices.Repeat([]N{55}, 8)...)[:len(l)]
}

// intact fails unless a list has what is asked for, and its room what roomy left there.
func intact[N int | int64](t *testing.T, what string, l, asked []N) {
	t.Helper()
	if !slices.Equal(l, asked) || !slices.Equal(l[len(l):len(l)+8], slices.Repeat([]N{55}, 8)) {
		t.Errorf("%s: the argument is %v, and its room %v", what, l, l[len(l):len(l)+8])
	}
}

// given is an equal array with room behind its lists.
func given(a api.Array) api.Array {
	return api.Array{Kind: a.Kind, Shape: roomy(a.Shape...), Elems: roomy(a.Elems...)}
}

// unchanged fails unless an array that given answered is as it was.
func unchanged(t *testing.T, what string, a, was api.Array) {
	t.Helper()
	intact(t, what+": shape", a.Shape, was.Shape)
	intact(t, what+": elements", a.Elems, was.Elems)
}

// onlyReads fails unless a call of two arrays leaves them alone, and answers new memory each time.
func onlyReads(t *testing.T, name string, call func(a, b api.Array) (api.Array, api.Errno), a, b api.Array) {
	t.Helper()
	asked, e := call(a, b)
	want(t, name, e, api.OK)
	asked = api.Array{Kind: asked.Kind, Shape: slices.Clone(asked.Shape), Elems: slices.Clone(asked.Elems)}
	x, y := given(a), given(b)
	one, e := call(x, y)
	want(t, name, e, api.OK)
	two, _ := call(x, y)
	spreadAll(one)
	unchanged(t, name+", the first argument behind a change of the answer", x, a)
	unchanged(t, name+", the second argument behind a change of the answer", y, b)
	is(t, name+", another answer", two, asked)
	spreadAll(x, y)
	is(t, name+", behind a change of the arguments", two, asked)
}

// someArrays are arrays of few elements, of each rank.
func someArrays() []api.Array {
	return []api.Array{number(7), chars(nil, 'a'), vector(), text(""), vector(1), vector(1, 2, 3), text("abc"), told(1, 1, 2, 3), told(2, 97, 2, 2), told(1, 1, 2, 0), told(1, 1, 2, 1, 2), told(2, 97, 1, 2, 2, 1)}
}

func TestCallsOfOneArrayOnlyRead(t *testing.T) {
	for name, f := range calls() {
		for _, a := range someArrays() {
			if name != "Iota" {
				onlyReads(t, name, func(a, _ api.Array) (api.Array, api.Errno) { return f(a) }, a, vector(1))
			}
		}
	}
	for n := range int64(5) {
		onlyReads(t, "Iota", func(a, _ api.Array) (api.Array, api.Errno) { return mold.Iota(a) }, number(n), vector(1))
	}
}

func TestCallsOfAListOnlyRead(t *testing.T) {
	for name, f := range byList() {
		for _, a := range someArrays() {
			for _, n := range []int64{0, 1, 2, 5} {
				onlyReads(t, name, f, vector(slices.Repeat([]int64{n}, max(1, len(a.Shape)))...), a)
			}
		}
	}
	onlyReads(t, "Reshape", mold.Reshape, number(3), told(1, 1, 3))
	onlyReads(t, "Reshape", mold.Reshape, vector(2, 3), told(1, 1, 2, 3))
	onlyReads(t, "Take", mold.Take, number(-4), vector(1, 2))
	onlyReads(t, "Drop", mold.Drop, vector(-1, 0), told(2, 97, 2, 2))
}

func TestCatOnlyReads(t *testing.T) {
	for _, a := range someArrays() {
		for _, b := range someArrays() {
			if _, e := mold.Cat(a, b); e == api.OK {
				onlyReads(t, "Cat", mold.Cat, a, b)
			}
		}
	}
}

func TestListOnlyReads(t *testing.T) {
	for _, a := range []api.Array{number(7), vector(1, 2, 3), vector()} {
		x := given(a)
		one, _ := mold.List(x)
		two, _ := mold.List(x)
		spread(one)
		unchanged(t, "List", x, a)
		spreadAll(x)
		if !slices.Equal(two, a.Elems) {
			t.Errorf("List of %s: another answer is %v", short(a), two)
		}
	}
}

// A list or an array that is used twice, as both arguments, is read as any other one.
func TestCallsOfAnArrayWithItself(t *testing.T) {
	a := given(vector(3, 2))
	for _, c := range []struct {
		name  string
		f     func(a, b api.Array) (api.Array, api.Errno)
		asked api.Array
	}{{"Reshape", mold.Reshape, nums([]int{3, 2}, 3, 2, 3, 2, 3, 2)}, {"Cat", mold.Cat, vector(3, 2, 3, 2)}} {
		got, e := c.f(a, a)
		want(t, c.name, e, api.OK)
		is(t, c.name, got, c.asked)
		spreadAll(got)
		unchanged(t, c.name, a, vector(3, 2))
	}
	n := given(number(2))
	got, e := mold.Take(n, n)
	want(t, "Take", e, api.OK)
	is(t, "Take", got, vector(2, 0))
	spreadAll(got)
	unchanged(t, "Take", n, number(2))
}

// A gather map stays what it is, whatever becomes of the list and the shape that it was made of, of its own shape, and of another map of the same.
func TestMapsAreIndependent(t *testing.T) {
	for name, f := range ways() {
		for _, a := range someArrays() {
			for _, n := range []int64{0, 1, 2, 5} {
				l := vector(slices.Repeat([]int64{n}, max(1, len(a.Shape)))...)
				asked, e := byList()[name](l, a)
				want(t, name, e, api.OK)
				list, shape := given(l), roomy(a.Shape...)
				one, e := f(list, shape)
				want(t, name, e, api.OK)
				two, _ := f(list, shape)
				three, _ := f(list, shape)
				spread(one.Shape)
				unchanged(t, name+", the list", list, l)
				intact(t, name+", the shape", shape, a.Shape)
				goes(t, two, asked, a)
				spreadAll(list)
				spread(shape)
				goes(t, two, asked, a)
				goes(t, mold.Way{Shape: three.Shape, At: one.At}, asked, a)
			}
		}
	}
}

func TestMapsOfCatAreIndependent(t *testing.T) {
	for _, a := range someArrays() {
		for _, b := range someArrays() {
			asked, e := mold.Cat(a, b)
			if e != api.OK {
				continue
			}
			x, y := roomy(a.Shape...), roomy(b.Shape...)
			one, e := mold.CatWay(x, y)
			want(t, "CatWay", e, api.OK)
			two, _ := mold.CatWay(x, y)
			three, _ := mold.CatWay(x, y)
			spread(one.Shape)
			intact(t, "CatWay, the first shape", x, a.Shape)
			intact(t, "CatWay, the second shape", y, b.Shape)
			goes(t, two, asked, a, b)
			spread(x)
			spread(y)
			goes(t, two, asked, a, b)
			goes(t, mold.Way{Shape: three.Shape, At: one.At}, asked, a, b)
		}
	}
}

// Go leaves the map and all arrays alone, those that no element comes from as well.
func TestGoOnlyReads(t *testing.T) {
	a, b, c := given(vector(7, 8, 9)), given(text("ab")), given(told(1, 1, 2, 2))
	shape := roomy(2, 2)
	w := wayTo(shape, source{0, 2}, source{-1, 0}, source{2, 1}, source{0, 0})
	asked := nums([]int{2, 2}, 9, 0, 2, 7)
	one, e := w.Go(1, a, b, c)
	want(t, "Go", e, api.OK)
	two, _ := w.Go(1, a, b, c)
	spreadAll(one)
	intact(t, "the map's shape", shape, []int{2, 2})
	unchanged(t, "the first array", a, vector(7, 8, 9))
	unchanged(t, "the second array", b, text("ab"))
	unchanged(t, "the third array", c, told(1, 1, 2, 2))
	is(t, "another answer", two, asked)
	list := []api.Array{a, b, c}
	goes(t, w, asked, list...)
	for i, x := range []api.Array{vector(7, 8, 9), text("ab"), told(1, 1, 2, 2)} {
		is(t, "an array of the list", list[i], x)
	}
	spreadAll(a, b, c)
	spread(shape)
	is(t, "behind a change of the arguments", two, asked)
}

// Go keeps no array: applied to others, a map makes of these.
func TestMapsAreAppliedAgain(t *testing.T) {
	w, e := mold.TakeWay(vector(3), []int{2})
	want(t, "TakeWay", e, api.OK)
	for range 3 {
		goes(t, w, vector(1, 2, 0), vector(1, 2))
		goes(t, w, text("ab "), text("ab"))
		goes(t, w, vector(5, 6, 0), vector(5, 6))
		goes(t, w, vector(7, 8, 0), vector(7, 8, 9))
		astray(t, "an array that is too short", w, 1, api.ErrWay, vector(1))
		astray(t, "no array", w, 1, api.ErrWay)
	}
}

// Calls that answer an error leave their arguments alone as well.
func TestErrorsOnlyRead(t *testing.T) {
	a, b, c, d := given(vector(-1, 2)), given(text("abc")), given(told(1, 1, 2, 2)), given(nums([]int{2}, 1))
	bothFail(t, "Reshape", a, b, api.ErrDomain)
	bothFail(t, "Take", a, b, api.ErrLength)
	bothFail(t, "Drop", c, a, api.ErrRank)
	noCat(t, a, told(1, 1, 3, 2), api.ErrLength)
	noCat(t, a, b, api.ErrDomain)
	noCat(t, d, a, api.ErrArray)
	oneFails(t, "Iota", a, api.ErrRank)
	isNoList(t, b, api.ErrDomain)
	astray(t, "Go", fills(4097), 1, api.ErrWay, a, b, c, d)
	unchanged(t, "a", a, vector(-1, 2))
	unchanged(t, "b", b, text("abc"))
	unchanged(t, "c", c, told(1, 1, 2, 2))
	unchanged(t, "d", d, nums([]int{2}, 1))
}

// A map may be asked by several at once, and in any order.
func TestMapsHaveNoMemory(t *testing.T) {
	take, _ := mold.TakeWay(vector(-3, 4), []int{2, 3})
	drop, _ := mold.DropWay(vector(1, -1), []int{2, 3})
	reshape, _ := mold.ReshapeWay(vector(4, 2), []int{3})
	cat, _ := mold.CatWay([]int{2, 3}, nil)
	var w sync.WaitGroup
	for range 4 {
		w.Go(func() {
			for n := 11; n >= 0; n-- {
				maps(t, "TakeWay", take, api.OK, took(vector(-3, 4), []int{2, 3}))
				maps(t, "DropWay", drop, api.OK, left(vector(1, -1), []int{2, 3}))
				maps(t, "ReshapeWay", reshape, api.OK, reshaped(vector(4, 2), []int{3}))
				maps(t, "CatWay", cat, api.OK, joined([]int{2, 3}, nil))
			}
		})
	}
	w.Wait()
}

// A map has no source for what is no position of its shape, and does not panic there.
func TestMapsAskedElsewhere(t *testing.T) {
	for name, f := range ways() {
		for _, a := range someArrays() {
			for _, n := range []int64{0, 1, 5} {
				w, e := f(vector(slices.Repeat([]int64{n}, max(1, len(a.Shape)))...), a.Shape)
				want(t, name, e, api.OK)
				askedElsewhere(t, name, w)
			}
		}
	}
	for _, a := range someArrays() {
		for _, b := range someArrays() {
			if w, e := mold.CatWay(a.Shape, b.Shape); e == api.OK {
				askedElsewhere(t, "CatWay", w)
			}
		}
	}
}

// askedElsewhere fails unless a map answers a fill element for what is no position of its shape.
func askedElsewhere(t *testing.T, what string, w mold.Way) {
	t.Helper()
	count := countOf(w.Shape)
	for _, n := range []int{-1, -2, count, count + 1, 4096, least, greatest} {
		if n >= 0 && n < count {
			continue
		}
		if of, place := w.At(n); of != -1 || place != 0 {
			t.Errorf("%s: position %d of %v comes from %d, %d", what, n, w.Shape, of, place)
		}
	}
}
