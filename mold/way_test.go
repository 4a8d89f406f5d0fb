package mold_test

import (
	"slices"
	"testing"

	"quadrat/api"
	"quadrat/mold"
)

// wayTo is a gather map of that shape whose elements come from a list of sources, by position.
func wayTo(shape []int, sources ...source) mold.Way {
	return mold.Way{Shape: shape, At: func(n int) (of, place int) { return sources[n].of, sources[n].place }}
}

// goes fails unless a gather map makes that array.
func goes(t *testing.T, w mold.Way, asked api.Array, l ...api.Array) {
	t.Helper()
	got, e := w.Go(asked.Kind, l...)
	want(t, "Go", e, api.OK)
	is(t, "Go", got, asked)
}

// astray fails unless a gather map makes nothing, with that error.
func astray(t *testing.T, what string, w mold.Way, kind int, asked api.Errno, l ...api.Array) {
	t.Helper()
	got, e := w.Go(kind, l...)
	want(t, what+": Go", e, asked)
	is(t, what+": Go, beside its error", got, api.Array{})
}

// noKinds are numbers that no kind has.
func noKinds() []int {
	return []int{0, 3, -1, -2, 4, 255, 256, 257, 258, 1 << 32, 1<<32 + 1, 1<<32 + 2, least, least + 1, greatest}
}

// fills is a map of nothing but fill elements.
func fills(shape ...int) mold.Way {
	return mold.Way{Shape: shape, At: func(n int) (of, place int) { return -1, n }}
}

func TestGoOfOneArrayAndOfSeveral(t *testing.T) {
	a, b, c := vector(7, 8, 9), number(5), nums([]int{2, 2}, 1, 2, 3, 4)
	goes(t, wayTo([]int{2}, source{0, 2}, source{0, 0}), vector(9, 7), a)
	goes(t, wayTo([]int{2, 2}, source{0, 1}, source{0, 1}, source{0, 1}, source{0, 0}), nums([]int{2, 2}, 8, 8, 8, 7), a)
	goes(t, wayTo(nil, source{0, 0}), number(5), b)
	goes(t, wayTo([]int{5}, source{2, 3}, source{1, 0}, source{0, 0}, source{-1, 0}, source{2, 0}), vector(4, 5, 7, 0, 1), a, b, c)
	goes(t, wayTo([]int{1, 3}, source{1, 0}, source{2, 0}, source{0, 0}), nums([]int{1, 3}, 7, 5, 7), a, a, b)
	goes(t, wayTo([]int{2, 1, 1, 2}, source{0, 3}, source{0, 2}, source{0, 1}, source{0, 0}), nums([]int{2, 1, 1, 2}, 4, 3, 2, 1), c)
	goes(t, wayTo([]int{3}, source{0, 1}, source{-1, 0}, source{1, 0}), chars([]int{3}, 'b', ' ', 'x'), text("ab"), text("x"))
}

func TestGoTakesManyArrays(t *testing.T) {
	var l []api.Array
	asked := vector(many(100, 300)...)
	for i := range 300 {
		l = append(l, vector(0, int64(100+i)))
	}
	goes(t, mold.Way{Shape: []int{300}, At: func(n int) (int, int) { return n, 1 }}, asked, l...)
	slices.Reverse(l)
	slices.Reverse(asked.Elems)
	goes(t, mold.Way{Shape: []int{300}, At: func(n int) (int, int) { return n, 1 }}, asked, l...)
	astray(t, "one array too few", mold.Way{Shape: []int{300}, At: func(n int) (int, int) { return n, 1 }}, 1, api.ErrWay, l[1:]...)
}

func TestFillElements(t *testing.T) {
	for _, shape := range goodShapes() {
		count := countOf(shape)
		goes(t, fills(shape...), nums(shape, slices.Repeat([]int64{0}, count)...))
		goes(t, fills(shape...), chars(shape, slices.Repeat([]int64{32}, count)...))
		goes(t, fills(shape...), nums(shape, slices.Repeat([]int64{0}, count)...), vector(7), vector())
		goes(t, fills(shape...), chars(shape, slices.Repeat([]int64{32}, count)...), text("ab"))
	}
	// The place of a fill element tells nothing.
	for _, place := range []int{0, 1, -1, 4096, least, greatest} {
		goes(t, wayTo([]int{2}, source{-1, place}, source{0, 0}), vector(0, 7), vector(7))
		goes(t, wayTo([]int{2}, source{-1, place}, source{0, 0}), text(" a"), text("a"))
		goes(t, wayTo(nil, source{-1, place}), number(0))
	}
}

func TestKindsThatAreNone(t *testing.T) {
	for _, kind := range noKinds() {
		astray(t, "a kind that is none", wayTo([]int{1}, source{0, 0}), kind, api.ErrWay, vector(7))
		astray(t, "a kind that is none, of no elements", fills(0), kind, api.ErrWay)
		astray(t, "a kind that is none, of the argument as well", wayTo(nil, source{0, 0}), kind, api.ErrWay, api.Array{Kind: kind, Elems: []int64{7}})
		astray(t, "a kind that is none, and no map", mold.Way{}, kind, api.ErrWay)
	}
}

func TestShapesOfMapsThatAreNotValid(t *testing.T) {
	for _, shape := range badShapes() {
		for kind := 1; kind <= 2; kind++ {
			asks := 0
			w := mold.Way{Shape: shape, At: func(int) (int, int) { asks++; return -1, 0 }}
			astray(t, "a shape that is not valid", w, kind, api.ErrWay)
			astray(t, "a shape that is not valid, with an array of it", w, kind, api.ErrWay, nums(shape), vector(1, 2))
			astray(t, "a shape that is not valid, and no At", mold.Way{Shape: shape}, kind, api.ErrWay)
			if asks != 0 {
				t.Errorf("At is asked %d times", asks)
			}
		}
	}
}

func TestNoAt(t *testing.T) {
	for _, shape := range goodShapes() {
		for kind := 1; kind <= 2; kind++ {
			astray(t, "no At", mold.Way{Shape: shape}, kind, api.ErrWay)
			astray(t, "no At", mold.Way{Shape: shape}, kind, api.ErrWay, nums(shape, many(1, countOf(shape))...))
		}
	}
	astray(t, "the zero map", mold.Way{}, 1, api.ErrWay)
	astray(t, "the zero map", mold.Way{}, 2, api.ErrWay, text("a"))
}

// Which array a source names, and which place of it, is held against what there is.
func TestSourcesThatThereAreNot(t *testing.T) {
	a, b := vector(7, 8, 9), vector(5)
	for _, c := range []source{
		{2, 0}, {3, 0}, {-2, 0}, {-3, 0}, {least, 0}, {greatest, 0}, {1 << 32, 0}, {-1 << 32, 0}, {1<<32 + 1, 0},
		{0, 3}, {0, 4}, {0, -1}, {0, -2}, {0, least}, {0, greatest}, {0, 1 << 32}, {1, 1}, {1, 2}, {1, -1}, {1, greatest}, {2, -1}, {-2, 3}, {1, 1 << 32},
	} {
		for at := range 5 {
			sources := slices.Repeat([]source{{0, 2}}, 5)
			sources[at] = c
			astray(t, "a source that there is not", wayTo([]int{5}, sources...), 1, api.ErrWay, a, b)
			astray(t, "a source that there is not", wayTo([]int{5}, sources...), 2, api.ErrWay, a, b)
		}
		astray(t, "one element alone", wayTo(nil, c), 1, api.ErrWay, a, b)
	}
	for _, place := range []int{0, 1, -1} {
		astray(t, "no arrays at all", wayTo(nil, source{0, place}), 1, api.ErrWay)
		astray(t, "an array of no elements", wayTo(nil, source{0, place}), 1, api.ErrWay, vector())
		astray(t, "an array of no elements behind one that has some", wayTo(nil, source{1, place}), 1, api.ErrWay, a, vector(), a)
	}
	goes(t, wayTo([]int{4}, source{0, 0}, source{0, 2}, source{1, 0}, source{-1, 0}), vector(7, 9, 5, 0), a, b)
}

// Of each array only the elements count.
func TestKindsAndShapesOfArraysAreNotExamined(t *testing.T) {
	w := wayTo([]int{3}, source{0, 1}, source{-1, 0}, source{0, 0})
	for _, kind := range append(noKinds(), 1, 2) {
		for _, shape := range append(badShapes(), goodShapes()...) {
			a := api.Array{Kind: kind, Shape: shape, Elems: []int64{97, 98}}
			goes(t, w, vector(98, 0, 97), a)
			goes(t, w, text("b a"), a)
			goes(t, w, vector(98, 0, 97), a, a, api.Array{}, badArrays()[9])
			astray(t, "a place behind the elements", wayTo(nil, source{0, 2}), 1, api.ErrWay, a)
		}
	}
	goes(t, w, vector(0xD800, 0, least), chars([]int{2}, least, 0xD800))
	long := nums([]int{1}, many(1, 5000)...)
	goes(t, wayTo(nil, source{0, 4999}), number(5000), long)
	astray(t, "behind 5000 elements", wayTo(nil, source{0, 5000}), 1, api.ErrWay, long)
}

func TestResultsThatAreNotValid(t *testing.T) {
	for _, x := range []int64{-1, 0xD800, 0xDBFF, 0xDFFF, 0x110000, 1<<32 + 97, least, greatest} {
		for kind := 1; kind <= 2; kind++ {
			a := api.Array{Kind: kind, Shape: []int{3}, Elems: []int64{97, x, 98}}
			astray(t, "no character", wayTo(nil, source{0, 1}), 2, api.ErrArray, a)
			astray(t, "no character among others", wayTo([]int{3}, source{0, 0}, source{0, 1}, source{-1, 0}), 2, api.ErrArray, a)
			goes(t, wayTo([]int{2}, source{0, 2}, source{0, 0}), text("ba"), a)
			goes(t, wayTo([]int{3}, source{0, 0}, source{0, 1}, source{-1, 0}), vector(97, x, 0), a)
			// A source that there is not tells ahead of it, wherever it stands.
			astray(t, "a source behind it", wayTo([]int{2}, source{0, 1}, source{0, 3}), 2, api.ErrWay, a)
			astray(t, "a source ahead of it", wayTo([]int{2}, source{1, 0}, source{0, 1}), 2, api.ErrWay, a)
			astray(t, "a source far behind it", wayTo([]int{4}, source{0, 1}, source{0, 1}, source{-1, 0}, source{-2, 0}), 2, api.ErrWay, a)
		}
	}
}

// A map of no elements has no sources to ask for.
func TestMapsOfNoElements(t *testing.T) {
	for _, shape := range [][]int{{0}, {0, 0}, {0, 4096}, {3, 0}, {2, 0, 2}, {4096, 4096, 4096, 0}} {
		w := mold.Way{Shape: shape, At: func(int) (int, int) { panic("asked") }}
		for _, l := range [][]api.Array{nil, {vector()}, {vector(1), text("ab")}, {{}}} {
			goes(t, w, nums(shape), l...)
			goes(t, w, chars(shape), l...)
		}
	}
}

// Each position is asked for, none else is.
func TestWhichPositionsAreAskedFor(t *testing.T) {
	for _, shape := range goodShapes() {
		asked := map[int]int{}
		w := mold.Way{Shape: shape, At: func(n int) (int, int) { asked[n]++; return 0, 0 }}
		count := countOf(shape)
		goes(t, w, nums(shape, slices.Repeat([]int64{7}, count)...), number(7))
		if len(asked) != count {
			t.Errorf("%d positions of %v are asked for", len(asked), shape)
		}
		for n := range asked {
			if n < 0 || n >= count {
				t.Errorf("position %d of %v is asked for", n, shape)
			}
		}
	}
}

// An At that panics gives no source.
func TestAtThatPanics(t *testing.T) {
	for at := range 6 {
		w := mold.Way{Shape: []int{2, 3}, At: func(n int) (of, place int) {
			if n == at {
				panic("no source")
			}
			return 0, 0
		}}
		astray(t, "an At that panics", w, 1, api.ErrWay, vector(7))
		astray(t, "an At that panics, of characters that are none", w, 2, api.ErrWay, number(-1))
	}
	astray(t, "a panic of nothing", mold.Way{At: func(int) (int, int) { panic(nil) }}, 1, api.ErrWay, vector(7))
	astray(t, "an index out of range", wayTo([]int{3}, source{0, 0}), 1, api.ErrWay, vector(7))
}

// A map that is written to while it is applied makes what it was.
func TestAtThatWritesToItsMap(t *testing.T) {
	for _, x := range []int{-1, 0, 1, 7, 4097} {
		shape := []int{2, 3}
		w := mold.Way{Shape: shape}
		w.At = func(n int) (of, place int) {
			shape[0], shape[1] = x, n
			return 0, n
		}
		goes(t, w, nums([]int{2, 3}, 1, 2, 3, 4, 5, 6), vector(1, 2, 3, 4, 5, 6))
	}
}
