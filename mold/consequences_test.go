package mold_test

import (
	"testing"

	"quadrat/api"
	"quadrat/mold"
)

// must is an answer that has no error.
func must(t *testing.T) func(a api.Array, e api.Errno) api.Array {
	return func(a api.Array, e api.Errno) api.Array {
		t.Helper()
		want(t, "a call that has an answer", e, api.OK)
		return a
	}
}

func TestTheRavelReshapedByTheShape(t *testing.T) {
	ok := must(t)
	for _, shape := range goodShapes() {
		for kind := 1; kind <= 2; kind++ {
			a := told(kind, 1, shape...)
			is(t, "the ravel reshaped", ok(mold.Reshape(ok(mold.Shape(a)), ok(mold.Ravel(a)))), a)
			is(t, "the array itself reshaped", ok(mold.Reshape(ok(mold.Shape(a)), a)), a)
			if len(shape) > 0 {
				is(t, "the array taken by its shape", ok(mold.Take(ok(mold.Shape(a)), a)), a)
			}
		}
	}
	r := noise(7)
	for range 500 {
		a := told(1+r.below(2), 1, r.shape()...)
		is(t, "the ravel reshaped", ok(mold.Reshape(ok(mold.Shape(a)), ok(mold.Ravel(a)))), a)
	}
}

func TestWhatIsTakenAndWhatIsDropped(t *testing.T) {
	ok := must(t)
	for _, count := range []int{0, 1, 2, 3, 10, 4096} {
		for kind := 1; kind <= 2; kind++ {
			a := told(kind, 1, count)
			for n := 0; n <= count; n += max(1, n/4) {
				for _, l := range []api.Array{number(int64(n)), vector(int64(n))} {
					is(t, "from the front", ok(mold.Cat(ok(mold.Take(l, a)), ok(mold.Drop(l, a)))), a)
				}
				l := number(int64(-n))
				if n > 0 {
					is(t, "from the end", ok(mold.Cat(ok(mold.Drop(l, a)), ok(mold.Take(l, a)))), a)
				}
			}
		}
	}
}

// The gather maps, applied, make what the functions answer.
func TestMapsMakeWhatFunctionsAnswer(t *testing.T) {
	r := noise(99)
	for range 3000 {
		a := told(1+r.below(2), 1, r.shape()...)
		b := told(a.Kind, 5000, r.shape()...)
		l := r.list(r.below(6))
		for name, f := range byList() {
			asked, e := f(l, a)
			w, fromWay := ways()[name](l, a.Shape)
			want(t, name+"Way of "+both(l, a), fromWay, e)
			if e == api.OK {
				goes(t, w, asked, a)
			}
		}
		asked, e := mold.Cat(a, b)
		w, fromWay := mold.CatWay(a.Shape, b.Shape)
		want(t, "CatWay of "+both(a, b), fromWay, e)
		if e == api.OK {
			goes(t, w, asked, a, b)
		}
	}
}

// What answers are made of are valid arrays: each of them is taken again.
func TestAnswersAreValid(t *testing.T) {
	r := noise(5)
	for range 2000 {
		a := told(1+r.below(2), 1, r.shape()...)
		l := r.list(max(1, len(a.Shape)))
		for name, f := range byList() {
			if got, e := f(l, a); e == api.OK && (!isValid(got) || got.Kind != a.Kind) {
				t.Errorf("%s of %s answers %v", name, both(l, a), got)
			}
		}
		if got, e := mold.Cat(a, told(a.Kind, 1, r.shape()...)); e == api.OK && (!isValid(got) || got.Kind != a.Kind) {
			t.Errorf("Cat answers %v", got)
		}
	}
}
