package array_test

import (
	"slices"
	"testing"

	"quadrat/api"
	"quadrat/array"
)

// spread writes over a list, and into the room behind it.
func spread[N int | int64](l []N) {
	for i := range l {
		l[i] = 88
	}
	_ = append(l, 88, 88, 88)
}

// ints are the numbers from 1 on, so many of them, with room for others behind them.
func ints[N int | int64](n int) []N {
	l := make([]N, n+8)
	for i := range l {
		l[i] = N(i + 1)
	}
	return l[:n]
}

// intact fails unless a list is as ints made it, with its room.
func intact[N int | int64](t *testing.T, what string, l []N) {
	t.Helper()
	room := l[:len(l)+8]
	if !slices.Equal(room, ints[N](len(room))) {
		t.Errorf("%s: the argument and its room are %v", what, room)
	}
}

func TestVectorOnlyReadsItsArgument(t *testing.T) {
	for _, n := range []int{0, 1, 2, 100} {
		given := ints[int64](n)
		one, two := array.Vector(given...), array.Vector(given...)
		spread(one.Shape)
		spread(one.Elems)
		intact(t, "behind a change of the answer", given)
		is(t, "another answer", two, nums([]int{n}, first(n)...))
		spread(given)
		is(t, "an answer behind a change of the argument", two, nums([]int{n}, first(n)...))
	}
}

func TestScalarAndCharsAnswerNewMemory(t *testing.T) {
	one, two := array.Scalar(7), array.Scalar(7)
	spread(one.Shape)
	spread(one.Elems)
	is(t, "another scalar", two, nums(nil, 7))
	is(t, "the next scalar", array.Scalar(7), nums(nil, 7))
	for _, text := range []string{"", "a", "ab\xFF"} {
		elems := map[int][]int64{0: nil, 1: {97}, 3: {97, 98, 0xFFFD}}[len(text)]
		one, two := array.Chars(text), array.Chars(text)
		spread(one.Shape)
		spread(one.Elems)
		is(t, "other characters", two, chars([]int{len(elems)}, elems...))
		is(t, "the next characters", array.Chars(text), chars([]int{len(elems)}, elems...))
	}
}

func TestMakeOnlyReadsItsShape(t *testing.T) {
	for rank := range 4 {
		given := ints[int](rank)
		asked := api.Array{Kind: 2, Shape: slices.Clone(given), Elems: first(countOf(given))}
		elem := func(n int) int64 { return int64(n + 1) }
		one, two := made(t, 2, given, elem), made(t, 2, given, elem)
		spread(one.Shape)
		spread(one.Elems)
		intact(t, "behind a change of the answer", given)
		is(t, "another answer", two, asked)
		spread(given)
		is(t, "an answer behind a change of the argument", two, asked)
	}
}

// A function that writes to the shape while it is asked for elements changes neither how many it is asked for nor what becomes of them.
func TestMakeOfAFunctionThatWritesToTheShape(t *testing.T) {
	for _, x := range []int{-1, 0, 1, 4097} {
		given := []int{2, 3}
		var calls []int
		a := made(t, 1, given, noted(&calls, func(n int) int64 {
			given[0], given[1] = x, n
			return int64(n + 1)
		}))
		is(t, "Make", a, nums([]int{2, 3}, first(6)...))
		calledInOrder(t, "Make", calls, 6)
	}
}

// A function is asked for elements by Make, and never again.
func TestMakeKeepsNoFunction(t *testing.T) {
	var calls []int
	a := made(t, 1, []int{3}, noted(&calls, func(n int) int64 { return int64(n + 1) }))
	_, _ = array.Text(a)
	want(t, "Check", array.Check(a), api.OK)
	is(t, "Copy", array.Copy(a), a)
	is(t, "another one", made(t, 1, []int{1}, func(int) int64 { return 9 }), nums([]int{1}, 9))
	calledInOrder(t, "behind all that", calls, 3)
}

func TestPlaceAndAtOnlyRead(t *testing.T) {
	shape, at := ints[int](3), ints[int](3)
	clear(at)
	if n, is := array.Place(shape, at); !is || n != 0 {
		t.Errorf("Place is %d, %v", n, is)
	}
	if !slices.Equal(at[:11], []int{0, 0, 0, 4, 5, 6, 7, 8, 9, 10, 11}) {
		t.Errorf("the tuple and its room are %v", at[:11])
	}
	for n := range 6 {
		one, _ := array.At(shape, n)
		two, _ := array.At(shape, n)
		asked := []int{0, n / 3, n % 3}
		if !slices.Equal(one, asked) {
			t.Errorf("At(%d) is %v", n, one)
		}
		spread(one)
		intact(t, "behind a change of the answer", shape)
		if !slices.Equal(two, asked) {
			t.Errorf("another answer of At(%d) is %v", n, two)
		}
	}
	last, _ := array.At(shape, 5)
	spread(shape)
	if !slices.Equal(last, []int{0, 1, 2}) {
		t.Errorf("behind a change of the argument, the answer is %v", last)
	}
}

func TestCheckCountSameAndTextOnlyRead(t *testing.T) {
	for kind := range 4 {
		for rank := range 6 {
			a := api.Array{Kind: kind, Shape: ints[int](rank), Elems: ints[int64](max(0, countOf(ints[int](rank))))}
			_, _ = array.Count(a.Shape)
			_ = array.Check(a)
			_ = array.Same(a, a)
			_, _ = array.Text(a)
			intact(t, "a shape", a.Shape)
			intact(t, "elements", a.Elems)
		}
	}
}

func TestCopyAnswersNewMemory(t *testing.T) {
	for kind := range 4 {
		for rank := range 6 {
			for _, n := range []int{0, 1, 6, 7} {
				a := api.Array{Kind: kind, Shape: ints[int](rank), Elems: ints[int64](n)}
				asked := api.Array{Kind: kind, Shape: slices.Clone(a.Shape), Elems: slices.Clone(a.Elems)}
				one, two := array.Copy(a), array.Copy(a)
				spread(one.Shape)
				spread(one.Elems)
				intact(t, "a shape behind a change of the copy", a.Shape)
				intact(t, "elements behind a change of the copy", a.Elems)
				is(t, "another copy", two, asked)
				spread(a.Shape)
				spread(a.Elems)
				is(t, "a copy behind a change of the argument", two, asked)
			}
		}
	}
}

func TestTextsStay(t *testing.T) {
	a, b := nums([]int{2, 1}, 1, -2), array.Chars("it's")
	one, _ := array.Text(a)
	two, _ := array.Text(b)
	for _, x := range []api.Array{a, b} {
		spread(x.Shape)
		spread(x.Elems)
	}
	if one != "2 1⍴1 ¯2" || two != "'it''s'" {
		t.Errorf("behind a change of the arrays, the texts are %q and %q", one, two)
	}
	barred(t, "the array that was changed", a)
	want(t, "Text of no characters", array.Check(b), api.ErrArray)
}

// An answer hangs on its arguments alone, not on what was asked before.
func TestAnswersHangOnArgumentsAlone(t *testing.T) {
	r := noise(6)
	var arrays []api.Array
	var texts []string
	for range 60 {
		a := r.array()
		text, _ := array.Text(a)
		arrays, texts = append(arrays, a), append(texts, text)
	}
	for range 2000 {
		i, j := r.below(len(arrays)), r.below(len(arrays))
		a := arrays[i]
		if text, e := array.Text(a); e != api.OK || text != texts[i] {
			t.Errorf("asked again, Text is %q, want %q", text, texts[i])
		}
		if array.Same(a, arrays[j]) != equal(a, arrays[j]) {
			t.Errorf("asked again, Same of %v and %v is another one", a, arrays[j])
		}
		is(t, "asked again", made(t, a.Kind, a.Shape, func(n int) int64 { return a.Elems[n] }), a)
		refused(t, "something else between", 1+r.below(2), []int{2}, nil)
		barred(t, "something else between", nums(a.Shape, first(len(a.Elems)+1)...))
	}
}
