package mold_test

import (
	"testing"

	"quadrat/api"
	"quadrat/mold"
)

// calls are the functions of one array, by their names.
func calls() map[string]func(api.Array) (api.Array, api.Errno) {
	return map[string]func(api.Array) (api.Array, api.Errno){"Shape": mold.Shape, "Tally": mold.Tally, "Ravel": mold.Ravel, "Iota": mold.Iota}
}

// one fails unless a function of one array answers that array.
func one(t *testing.T, name string, a, asked api.Array) {
	t.Helper()
	got, e := calls()[name](a)
	want(t, name+" of "+short(a), e, api.OK)
	is(t, name+" of "+short(a), got, asked)
}

// oneFails fails unless a function of one array answers that error, and nothing beside it.
func oneFails(t *testing.T, name string, a api.Array, asked api.Errno) {
	t.Helper()
	got, e := calls()[name](a)
	want(t, name+" of "+short(a), e, asked)
	is(t, name+" of "+short(a)+", beside its error", got, api.Array{})
}

func TestShapeTallyAndRavel(t *testing.T) {
	for _, shape := range goodShapes() {
		lengths := []int64{}
		for _, n := range shape {
			lengths = append(lengths, int64(n))
		}
		tally := int64(1)
		if len(shape) > 0 {
			tally = lengths[0]
		}
		for kind := 1; kind <= 2; kind++ {
			a := told(kind, 1, shape...)
			one(t, "Shape", a, vector(lengths...))
			one(t, "Tally", a, number(tally))
			one(t, "Ravel", a, api.Array{Kind: kind, Shape: []int{countOf(shape)}, Elems: a.Elems})
		}
	}
}

func TestExamplesOfOneArray(t *testing.T) {
	one(t, "Iota", number(3), vector(1, 2, 3))
	oneFails(t, "Iota", number(4097), api.ErrLimit)
	one(t, "Tally", number(7), number(1))
	one(t, "Shape", number(7), vector())
}

func TestSomeShapesTalliesAndRavels(t *testing.T) {
	a, c := nums([]int{2, 3}, 6, 5, 4, 3, 2, least), chars([]int{3, 1}, 'x', 0, 0x10FFFF)
	one(t, "Shape", a, vector(2, 3))
	one(t, "Tally", a, number(2))
	one(t, "Ravel", a, vector(6, 5, 4, 3, 2, least))
	one(t, "Shape", c, vector(3, 1))
	one(t, "Tally", c, number(3))
	one(t, "Ravel", c, chars([]int{3}, 'x', 0, 0x10FFFF))
	one(t, "Shape", text(""), vector(0))
	one(t, "Tally", text(""), number(0))
	one(t, "Ravel", text(""), text(""))
	one(t, "Ravel", number(greatest), vector(greatest))
	one(t, "Ravel", chars(nil, 'a'), text("a"))
	one(t, "Shape", chars(nil, 'a'), vector())
	one(t, "Tally", chars(nil, 'a'), number(1))
}

func TestIota(t *testing.T) {
	for n := range 4097 {
		one(t, "Iota", number(int64(n)), vector(many(1, n)...))
	}
	for _, n := range []int64{4097, 4098, 1 << 31, 1 << 32, 1<<32 + 1, 1 << 62, greatest, greatest - 1} {
		oneFails(t, "Iota", number(n), api.ErrLimit)
	}
	for _, n := range []int64{-1, -2, -4096, -4097, -1 << 32, -1<<32 + 3, least, least + 1} {
		oneFails(t, "Iota", number(n), api.ErrDomain)
	}
}

func TestIotaOfWhatIsNoNumber(t *testing.T) {
	for _, shape := range goodShapes() {
		if len(shape) > 0 {
			oneFails(t, "Iota", told(1, 1, shape...), api.ErrRank)
			oneFails(t, "Iota", told(2, 1, shape...), api.ErrRank)
		}
	}
	for _, a := range []api.Array{vector(3), vector(-1), vector(4097), vector(), text("a"), text("ab"), text("")} {
		oneFails(t, "Iota", a, api.ErrRank)
	}
	for _, c := range []int64{0, 3, 'a', 4096, 4097, 0x10FFFF} {
		oneFails(t, "Iota", chars(nil, c), api.ErrDomain)
	}
}

func TestOneArrayThatIsNotValid(t *testing.T) {
	for name := range calls() {
		for _, bad := range badArrays() {
			oneFails(t, name, bad, api.ErrArray)
		}
	}
}
