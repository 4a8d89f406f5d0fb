package pick_test

import (
	"slices"
	"sync"
	"testing"

	"quadrat/api"
	"quadrat/mold"
	"quadrat/pick"
)

// spread writes over a list, and into the room behind it.
func spread[N int | int64](l []N) {
	for i := range l {
		l[i] = 88
	}
	_ = append(l, 88, 88, 88)
}

// spreadAll writes over arrays, and into the room behind their lists.
func spreadAll(l ...api.Array) {
	for _, a := range l {
		spread(a.Shape)
		spread(a.Elems)
	}
}

// roomy is a list with room for others behind it, where 55 stands.
func roomy[N int | int64](l ...N) []N {
	return append(slices.Clone(l), slices.Repeat([]N{55}, 8)...)[:len(l)]
}

// intact fails unless a list has what is asked for, and its room what roomy left there.
func intact[N int | int64](t *testing.T, what string, l, asked []N) {
	t.Helper()
	if !slices.Equal(l, asked) || !slices.Equal(l[len(l):len(l)+8], slices.Repeat([]N{55}, 8)) {
		t.Errorf("%s: the argument is %v, and its room %v", what, l, l[len(l):len(l)+8])
	}
}

// given is an equal array with room behind its lists.
func given(a api.Array) api.Array {
	return api.Array{Kind: a.Kind, Shape: roomy(a.Shape...), Elems: roomy(a.Elems...)}
}

// unchanged fails unless an array that given answered is as it was.
func unchanged(t *testing.T, what string, a, was api.Array) {
	t.Helper()
	if a.Kind != was.Kind {
		t.Errorf("%s: of kind %d", what, a.Kind)
	}
	intact(t, what+": shape", a.Shape, was.Shape)
	intact(t, what+": elements", a.Elems, was.Elems)
}

// givenAxes are equal selections with room behind them, where others stand, and behind their arrays' lists.
func givenAxes(l []api.Axis) []api.Axis {
	var roomier []api.Axis
	for _, x := range l {
		roomier = append(roomier, api.Axis{All: x.All, At: given(x.At)})
	}
	return append(roomier, api.Axis{All: true, At: given(number(55))})[:len(l)]
}

// unchangedAxes fails unless selections that givenAxes answered are as they were.
func unchangedAxes(t *testing.T, what string, l, was []api.Axis) {
	t.Helper()
	for i, x := range l {
		if x.All != was[i].All {
			t.Errorf("%s: selection %d is %v", what, i, x.All)
		}
		unchanged(t, what, x.At, was[i].At)
	}
	behind := l[: len(l)+1 : len(l)+1][len(l)]
	if !behind.All {
		t.Errorf("%s: what stands behind the selections is %v", what, behind)
	}
	unchanged(t, what+", behind the selections", behind.At, number(55))
}

// spreadAxes writes over selections and their arrays, and into the room behind them.
func spreadAxes(l []api.Axis) {
	for i, x := range l {
		spreadAll(x.At)
		l[i] = api.Axis{All: !x.All, At: number(88)}
	}
	_ = append(l, api.Axis{At: number(88)})
}

// onlyReads fails unless a call of two arrays leaves them alone, and answers new memory each time.
func onlyReads(t *testing.T, name string, f ofTwo, l, a, asked api.Array) {
	t.Helper()
	x, y := given(l), given(a)
	first, e := f(x, y)
	want(t, name, e, api.OK)
	second, _ := f(x, y)
	is(t, name, first, asked)
	spreadAll(first)
	unchanged(t, name+", the first argument behind a change of the answer", x, l)
	unchanged(t, name+", the second argument behind a change of the answer", y, a)
	is(t, name+", another answer", second, asked)
	spreadAll(x, y)
	is(t, name+", behind a change of the arguments", second, asked)
}

// selectionsOf are some that go with an array of that shape.
func selectionsOf(shape []int) [][]api.Axis {
	everything := slices.Repeat([]api.Axis{all()}, len(shape))
	l := [][]api.Axis{everything, slices.Repeat([]api.Axis{list()}, len(shape))}
	for axis, length := range shape {
		if length > 0 {
			part := slices.Clone(everything)
			part[axis] = by(int64(length))
			other := slices.Clone(everything)
			other[axis] = list(int64(length), 1)
			l = append(l, part, other)
		}
	}
	return l
}

// listsOf are some that go with an array of that shape.
func listsOf(shape []int) []api.Array {
	l := []api.Array{number(0), number(1)}
	if len(shape) == 0 {
		return append(l, number(3), vector(), vector(1), vector(2, 0, 1))
	}
	if length := shape[len(shape)-1]; length < 100 {
		l = append(l, vector(make1s(length)...), vector(make([]int64, length)...))
		if length > 0 {
			l = append(l, vector(append(make([]int64, length-1), 2)...))
		}
	}
	return l
}

func TestCompressOnlyReads(t *testing.T) {
	for _, shape := range fewShapes() {
		for kind := 1; kind <= 2; kind++ {
			for _, l := range listsOf(shape) {
				a := told(kind, 97, shape...)
				onlyReads(t, "Compress of "+both(l, a), pick.Compress, l, a, compressed(shape, l).array(a))
			}
		}
	}
}

func TestIndexOnlyReads(t *testing.T) {
	for _, shape := range fewShapes() {
		for kind := 1; kind <= 2; kind++ {
			for _, l := range selectionsOf(shape) {
				a := told(kind, 97, shape...)
				axes := givenAxes(l)
				onlyReads(t, "Index of "+short(a), func(_, a api.Array) (api.Array, api.Errno) { return pick.Index(a, axes) }, vector(1), a, indexed(shape, l).array(a))
				unchangedAxes(t, "Index of "+short(a), axes, l)
				got, e := pick.Index(a, axes)
				want(t, "Index of "+short(a), e, api.OK)
				spreadAxes(axes)
				is(t, "Index of "+short(a)+", behind a change of the selections", got, indexed(shape, l).array(a))
			}
		}
	}
}

// An answer has memory of its own, also where it is equal to an array of indices.
func TestIndexAnswersNewMemory(t *testing.T) {
	indices := given(told(1, 1, 2, 2))
	got, e := pick.Index(vector(1, 2, 3, 4), []api.Axis{at(indices)})
	want(t, "Index", e, api.OK)
	is(t, "Index", got, told(1, 1, 2, 2))
	spreadAll(got)
	unchanged(t, "Index, behind a change of the answer", indices, told(1, 1, 2, 2))
}

func TestLookupsOnlyRead(t *testing.T) {
	vectors := []api.Array{vector(), vector(5), vector(98, 97, 99, 97), text("", 0), text("cab", 3)}
	for name, f := range lookups() {
		for _, a := range vectors {
			for _, shape := range fewShapes() {
				for kind := 1; kind <= 2; kind++ {
					b := told(kind, 97, shape...)
					asked, _ := f[1](a, b)
					onlyReads(t, name+" of "+both(a, b), f[0], a, b, asked)
				}
			}
		}
	}
	for _, a := range vectors {
		for _, down := range []bool{false, true} {
			asked, _ := graded(a, down)
			onlyReads(t, "Grade of "+short(a), func(a, _ api.Array) (api.Array, api.Errno) { return pick.Grade(a, down) }, a, vector(1), asked)
		}
	}
}

// An array that is used twice, as both arguments, is read as any other one.
func TestCallsOfAnArrayWithItself(t *testing.T) {
	was := vector(2, 1, 2)
	for name, asked := range map[string]api.Array{"Compress": vector(2, 2, 1, 2, 2), "IndexOf": vector(1, 2, 1), "Member": vector(1, 1, 1), "Index": vector(1, 2, 1)} {
		f := map[string]ofTwo{"Compress": pick.Compress, "IndexOf": pick.IndexOf, "Member": pick.Member, "Index": func(l, a api.Array) (api.Array, api.Errno) { return pick.Index(a, []api.Axis{at(l)}) }}[name]
		a := given(was)
		got, e := f(a, a)
		want(t, name, e, api.OK)
		is(t, name, got, asked)
		spreadAll(got)
		unchanged(t, name, a, was)
	}
}

// stays fails unless a gather map is the model's, whatever becomes of its shape, of its own shape, of another map of the same, and of what else it was made of, which change writes over.
func stays(t *testing.T, name string, way func(shape []int) (mold.Way, api.Errno), change func(), shape []int, m model) {
	t.Helper()
	lengths := roomy(shape...)
	one, e := way(lengths)
	want(t, name, e, api.OK)
	two, _ := way(lengths)
	three, _ := way(lengths)
	spread(one.Shape)
	intact(t, name+", the shape", lengths, shape)
	maps(t, name+", behind a change of another one", two, e, m)
	change()
	spread(lengths)
	maps(t, name+", behind a change of what it was made of", two, e, m)
	maps(t, name+", behind a change of its own shape", mold.Way{Shape: three.Shape, At: one.At}, e, m)
	a := told(1, 1, shape...)
	goes(t, name, two, m.array(a), a)
}

func TestMapsAreIndependent(t *testing.T) {
	for _, shape := range fewShapes() {
		for _, l := range selectionsOf(shape) {
			axes := givenAxes(l)
			stays(t, index(l...).name, func(shape []int) (mold.Way, api.Errno) { return pick.IndexWay(shape, axes) }, func() {
				unchangedAxes(t, index(l...).name, axes, l)
				spreadAxes(axes)
			}, shape, indexed(shape, l))
		}
		for _, l := range listsOf(shape) {
			numbers := given(l)
			stays(t, compress(l).name, func(shape []int) (mold.Way, api.Errno) { return pick.CompressWay(numbers, shape) }, func() {
				unchanged(t, compress(l).name, numbers, l)
				spreadAll(numbers)
			}, shape, compressed(shape, l))
		}
	}
}

// The shape of a map is not that of an array of indices, or of the array, even if it is equal to it.
func TestShapesOfMapsAreNew(t *testing.T) {
	indices, lengths := given(told(1, 1, 2, 2)), roomy(2)
	w, e := pick.IndexWay([]int{4}, []api.Axis{at(indices)})
	want(t, "IndexWay", e, api.OK)
	spread(w.Shape)
	unchanged(t, "IndexWay, behind a change of its shape", indices, told(1, 1, 2, 2))
	w, e = pick.IndexWay(lengths, []api.Axis{all()})
	want(t, "IndexWay", e, api.OK)
	spread(w.Shape)
	intact(t, "IndexWay, behind a change of its shape", lengths, []int{2})
	w, e = pick.CompressWay(number(1), lengths)
	want(t, "CompressWay", e, api.OK)
	spread(w.Shape)
	intact(t, "CompressWay, behind a change of its shape", lengths, []int{2})
}

// Calls that answer an error leave their arguments alone as well.
func TestErrorsOnlyRead(t *testing.T) {
	a, b, c, d := given(vector(-1, 2, 2)), given(text("abc", 3)), given(told(1, 1, 2, 2)), given(nums([]int{2}, 1))
	fails(t, compress(a), b, api.ErrDomain)
	fails(t, compress(b), a, api.ErrDomain)
	fails(t, compress(c), a, api.ErrRank)
	fails(t, compress(vector(1, 1, 1)), c, api.ErrLength)
	fails(t, compress(d), c, api.ErrArray)
	fails(t, index(at(a)), b, api.ErrIndex)
	fails(t, index(at(b)), a, api.ErrDomain)
	fails(t, index(at(c), at(c)), a, api.ErrRank)
	fails(t, index(at(c), at(c)), c, api.ErrIndex)
	fails(t, index(at(d)), a, api.ErrArray)
	looks(t, c, a)
	looks(t, d, a)
	ranks(t, c)
	ranks(t, d)
	unchanged(t, "a", a, vector(-1, 2, 2))
	unchanged(t, "b", b, text("abc", 3))
	unchanged(t, "c", c, told(1, 1, 2, 2))
	unchanged(t, "d", d, nums([]int{2}, 1))
}

// A map may be asked by several at once, and in any order.
func TestMapsHaveNoMemory(t *testing.T) {
	shape := []int{2, 3, 2}
	calls := []call{index(by(2), list(3, 1, 3), all()), index(all(), at(told(1, 1, 3, 1)), list(2)), compress(vector(1, 2)), compress(number(2))}
	var w sync.WaitGroup
	for _, c := range calls {
		way, e := c.way(shape)
		for range 4 {
			w.Go(func() {
				for n := 23; n >= 0; n-- {
					_, _ = way.At(n)
					maps(t, c.name, way, e, c.m(shape))
				}
			})
		}
	}
	w.Wait()
}

// A map has no source for what is no position of its shape, and does not panic there.
func TestMapsAskedElsewhere(t *testing.T) {
	for _, shape := range fewShapes() {
		for _, l := range selectionsOf(shape) {
			w, e := pick.IndexWay(shape, l)
			want(t, "IndexWay", e, api.OK)
			askedElsewhere(t, index(l...).name, w)
		}
		for _, l := range listsOf(shape) {
			w, e := pick.CompressWay(l, shape)
			want(t, "CompressWay", e, api.OK)
			askedElsewhere(t, compress(l).name, w)
		}
	}
}

// askedElsewhere fails unless a map answers no array's element for what is no position of its shape.
func askedElsewhere(t *testing.T, what string, w mold.Way) {
	t.Helper()
	count := countOf(w.Shape)
	for _, n := range []int{-1, -2, count, count + 1, 4096, least, greatest} {
		if n >= 0 && n < count {
			continue
		}
		if of, place := w.At(n); of != -1 || place != 0 {
			t.Errorf("%s: position %d of %v comes from %d, %d", what, n, w.Shape, of, place)
		}
	}
}
