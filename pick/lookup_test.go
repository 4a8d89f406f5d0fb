package pick_test

import (
	"testing"

	"quadrat/api"
	"quadrat/pick"
)

// equal says whether an element of one array is equal to one of another.
func equal(a api.Array, i int, b api.Array, j int) bool {
	return a.Kind == b.Kind && a.Elems[i] == b.Elems[j]
}

// foundIn is the model of index-of.
func foundIn(a, b api.Array) (api.Array, api.Errno) {
	switch {
	case !isValid(a) || !isValid(b):
		return api.Array{}, api.ErrArray
	case len(a.Shape) != 1:
		return api.Array{}, api.ErrRank
	}
	made := nums(b.Shape)
	for j := range b.Elems {
		i := 0
		for i < len(a.Elems) && !equal(a, i, b, j) {
			i++
		}
		made.Elems = append(made.Elems, int64(i+1))
	}
	return made, api.OK
}

// areIn is the model of membership.
func areIn(a, b api.Array) (api.Array, api.Errno) {
	if !isValid(a) || !isValid(b) {
		return api.Array{}, api.ErrArray
	}
	made := nums(a.Shape)
	for i := range a.Elems {
		is := int64(0)
		for j := range b.Elems {
			if equal(a, i, b, j) {
				is = 1
			}
		}
		made.Elems = append(made.Elems, is)
	}
	return made, api.OK
}

// ofTwo is a function of two arrays.
type ofTwo func(a, b api.Array) (api.Array, api.Errno)

// lookups are the functions that look elements up, with their models.
func lookups() map[string][2]ofTwo {
	return map[string][2]ofTwo{"IndexOf": {pick.IndexOf, foundIn}, "Member": {pick.Member, areIn}}
}

// looks fails unless both functions answer what their models do, be it an error.
func looks(t *testing.T, a, b api.Array) {
	t.Helper()
	for name, f := range lookups() {
		got, e := f[0](a, b)
		asked, of := f[1](a, b)
		want(t, name+" of "+both(a, b), e, of)
		is(t, name+" of "+both(a, b), got, asked)
	}
}

// finds fails unless index-of and membership answer these arrays: the first one looks b up in a, the other one b in a as well.
func finds(t *testing.T, a, b, indices, members api.Array) {
	t.Helper()
	got, e := pick.IndexOf(a, b)
	want(t, "IndexOf of "+both(a, b), e, api.OK)
	is(t, "IndexOf of "+both(a, b), got, indices)
	got, e = pick.Member(b, a)
	want(t, "Member of "+both(b, a), e, api.OK)
	is(t, "Member of "+both(b, a), got, members)
	looks(t, a, b)
	looks(t, b, a)
}

// The chapter's examples.
func TestLookups(t *testing.T) {
	finds(t, vector(5, 6, 5), vector(5, 7), vector(1, 4), vector(1, 0))
	finds(t, text("xb", 2), text("ab", 2), vector(3, 2), vector(0, 1))
	got, e := pick.Member(number(97), text("a"))
	want(t, "Member of 97 and a", e, api.OK)
	is(t, "Member of 97 and a", got, number(0))
}

// What occurs once, more than once, and not at all.
func TestLookupsOfWhatOccurs(t *testing.T) {
	finds(t, vector(7, 8, 9), vector(9, 8, 7), vector(3, 2, 1), vector(1, 1, 1))
	finds(t, vector(7, 7, 8, 7, 8), vector(8, 7, 8), vector(3, 1, 3), vector(1, 1, 1))
	finds(t, vector(0, 0, 0), vector(0, 1, -1), vector(1, 4, 4), vector(1, 0, 0))
	finds(t, vector(1), vector(1, 2), vector(1, 2), vector(1, 0))
	finds(t, text("hello", 5), text("low", 3), vector(3, 5, 6), vector(1, 1, 0))
	finds(t, vector(least, greatest, 0, -1), vector(-1, greatest, least, least+1, greatest-1), vector(4, 2, 1, 5, 5), vector(1, 1, 1, 0, 0))
	finds(t, vector(1<<32, 1<<32+1), vector(0, 1, 1<<32, 1<<40), vector(3, 3, 1, 3), vector(0, 0, 1, 0))
	finds(t, told(1, 1, 4096), told(1, 0, 4096), vector(append([]int64{4097}, many(1, 4095)...)...), vector(append([]int64{0}, make1s(4095)...)...))
}

// make1s are so many ones.
func make1s(n int) []int64 {
	var l []int64
	for range n {
		l = append(l, 1)
	}
	return l
}

// What is looked up gives the result its shape.
func TestLookupsOfShapes(t *testing.T) {
	finds(t, vector(5, 6), number(6), number(2), number(1))
	finds(t, vector(5, 6), number(7), number(3), number(0))
	finds(t, text("ab", 2), text("b"), number(2), number(1))
	finds(t, vector(5, 6, 7), nums([]int{2, 2}, 7, 5, 4, 7), nums([]int{2, 2}, 3, 1, 4, 3), nums([]int{2, 2}, 1, 1, 0, 1))
	finds(t, vector(3), told(1, 1, 2, 1, 2, 1), nums([]int{2, 1, 2, 1}, 2, 2, 1, 2), nums([]int{2, 1, 2, 1}, 0, 0, 1, 0))
	for _, shape := range goodShapes() {
		for kind := 1; kind <= 2; kind++ {
			looks(t, told(kind, 100, 3), told(kind, 97, shape...))
			looks(t, told(kind, 97, shape...), told(kind, 100, 3))
		}
	}
}

// Where there is nothing, nothing is found; and nothing that is looked up has no indices.
func TestLookupsOfNothing(t *testing.T) {
	finds(t, vector(), vector(1, 2), vector(1, 1), vector(0, 0))
	finds(t, vector(), number(0), number(1), number(0))
	finds(t, text("", 0), text("a"), number(1), number(0))
	finds(t, vector(), vector(), vector(), vector())
	finds(t, vector(1, 2), vector(), vector(), vector())
	finds(t, vector(1, 2), nums([]int{0, 3}), nums([]int{0, 3}), nums([]int{0, 3}))
	finds(t, vector(1, 2), chars([]int{4096, 0}), nums([]int{4096, 0}), nums([]int{4096, 0}))
	finds(t, text("", 0), nums([]int{4096, 4096, 0}), nums([]int{4096, 4096, 0}), nums([]int{4096, 4096, 0}))
}

// Characters are equal to no numbers, also if these are their codes.
func TestLookupsOfOtherKinds(t *testing.T) {
	finds(t, vector(97, 98), text("ab", 2), vector(3, 3), vector(0, 0))
	finds(t, text("ab", 2), vector(97, 98), vector(3, 3), vector(0, 0))
	finds(t, vector(97), text("a"), number(2), number(0))
	finds(t, chars([]int{2}, 0, 1), vector(0, 1), vector(3, 3), vector(0, 0))
	finds(t, vector(32), text(" "), number(2), number(0))
	finds(t, text("", 0), vector(97), vector(1), vector(0))
	finds(t, vector(), text("ab", 1, 2), nums([]int{1, 2}, 1, 1), nums([]int{1, 2}, 0, 0))
}

// Members may be looked for in an array of any shape, but indices in a vector alone.
func TestLookupsInWhatIsNoVector(t *testing.T) {
	for _, shape := range goodShapes() {
		a, b := told(1, 1, shape...), vector(0, 1, 2, 5, 4096, 4097)
		looks(t, a, b)
		got, e := pick.Member(b, a)
		want(t, "Member of "+both(b, a), e, api.OK)
		asked, _ := areIn(b, a)
		is(t, "Member of "+both(b, a), got, asked)
		if len(shape) != 1 {
			got, e = pick.IndexOf(a, b)
			want(t, "IndexOf of "+both(a, b), e, api.ErrRank)
			is(t, "IndexOf, beside its error", got, api.Array{})
		}
	}
	member := func(a, b, asked api.Array) {
		t.Helper()
		got, e := pick.Member(a, b)
		want(t, "Member of "+both(a, b), e, api.OK)
		is(t, "Member of "+both(a, b), got, asked)
	}
	member(vector(5, 6), number(6), vector(0, 1))
	member(number(6), number(6), number(1))
	member(text("a"), text("b"), number(0))
	member(vector(5, 4, 1, 0), told(1, 1, 2, 2), vector(0, 1, 1, 0))
	member(told(2, 97, 2, 2), text("da", 2, 1), nums([]int{2, 2}, 1, 0, 0, 1))
	member(vector(1), told(1, 1, 1, 2, 2, 2), vector(1))
	member(number(1), nums([]int{2, 0}), number(0))
}

func TestLookupsAtRandom(t *testing.T) {
	r := noise(15)
	for range 3000 {
		a, b := api.Array{Kind: 1 + r.below(2), Shape: r.shape()}, api.Array{Kind: 1 + r.below(2), Shape: r.shape()}
		if r.below(3) > 0 {
			a.Shape, b.Kind = []int{r.below(20)}, a.Kind
		}
		for range countOf(a.Shape) {
			a.Elems = append(a.Elems, int64(r.below(12)))
		}
		for range countOf(b.Shape) {
			b.Elems = append(b.Elems, int64(r.below(12)))
		}
		looks(t, a, b)
	}
}
