package pick_test

import (
	"slices"
	"testing"

	"quadrat/api"
	"quadrat/pick"
)

// must is an answer that has no error.
func must(t *testing.T) func(a api.Array, e api.Errno) api.Array {
	t.Helper()
	return func(a api.Array, e api.Errno) api.Array {
		t.Helper()
		want(t, "the call", e, api.OK)
		return a
	}
}

// vectors are vectors of each kind: some are written out, others look like chance.
func vectors() []api.Array {
	l := []api.Array{vector(), text("", 0), vector(7), vector(3, 1, 3, 2), vector(5, 5, 5, 5), vector(greatest, least, 0, -1, least, greatest), text("hello", 5), told(1, 1, 4096), chars([]int{3}, 0x10FFFF, 0, 0xE000)}
	r := noise(11)
	for range 200 {
		a, few := api.Array{Kind: 1 + r.below(2), Shape: []int{r.below(60)}}, 1+r.below(90)
		for range a.Shape[0] {
			a.Elems = append(a.Elems, int64(r.below(few)))
		}
		l = append(l, a)
	}
	return l
}

// Indexing a vector by its grade yields its elements in order.
func TestAVectorByItsGradeIsSorted(t *testing.T) {
	for _, a := range vectors() {
		asked := api.Array{Kind: a.Kind, Shape: a.Shape, Elems: slices.Sorted(slices.Values(a.Elems))}
		up := must(t)(pick.Grade(a, false))
		is(t, "Index by the grade up", must(t)(pick.Index(a, []api.Axis{at(up)})), asked)
		slices.Reverse(asked.Elems)
		down := must(t)(pick.Grade(a, true))
		is(t, "Index by the grade down", must(t)(pick.Index(a, []api.Axis{at(down)})), asked)
	}
}

// A grade contains each index once, so grading it leads back to where each index was.
func TestAGradeContainsEachIndexOnce(t *testing.T) {
	for _, a := range vectors() {
		for _, down := range []bool{false, true} {
			grade := must(t)(pick.Grade(a, down))
			each := vector(many(1, len(a.Elems))...)
			is(t, "the indices of a grade", vector(slices.Sorted(slices.Values(grade.Elems))...), each)
			is(t, "a grade by its grade", must(t)(pick.Index(grade, []api.Axis{at(must(t)(pick.Grade(grade, false)))})), each)
			for i, n := range grade.Elems {
				if i > 0 && a.Elems[n-1] == a.Elems[grade.Elems[i-1]-1] && n < grade.Elems[i-1] {
					t.Errorf("Grade of %s: %d stands behind %d", short(a), n, grade.Elems[i-1])
				}
			}
		}
	}
}

// The element at the index that index-of answers is the one that was looked up, and none ahead of it is; an element is a member exactly if there is such an index.
func TestWhatIsFoundIsThere(t *testing.T) {
	l := vectors()
	for i, a := range l {
		for _, b := range []api.Array{l[(i+1)%len(l)], a, number(1), told(1, 0, 3, 2), told(2, 100, 2, 2)} {
			indices, members := must(t)(pick.IndexOf(a, b)), must(t)(pick.Member(b, a))
			for n, index := range indices.Elems {
				found := index <= int64(len(a.Elems))
				if found && !equal(a, int(index-1), b, n) {
					t.Errorf("IndexOf of %s: at %d is another element", both(a, b), index)
				}
				if found != (members.Elems[n] == 1) || !found && members.Elems[n] != 0 {
					t.Errorf("Member of %s: %d, and IndexOf %d", both(b, a), members.Elems[n], index)
				}
				for before := range index - 1 {
					if equal(a, int(before), b, n) {
						t.Errorf("IndexOf of %s: %d is not the first", both(a, b), index)
					}
				}
			}
		}
	}
}

// Each element of a vector is found in it, at its own index if it is the first.
func TestAVectorIsFoundInItself(t *testing.T) {
	for _, a := range vectors() {
		indices := must(t)(pick.IndexOf(a, a))
		if len(a.Elems) > 0 {
			is(t, "what is found", must(t)(pick.Index(a, []api.Axis{at(indices)})), a)
		}
		is(t, "the members", must(t)(pick.Member(a, a)), vector(make1s(len(a.Elems))...))
	}
}

// Selecting all of every axis yields the array, and so does repeating each element once.
func TestAllOfEveryAxis(t *testing.T) {
	for _, shape := range goodShapes() {
		for kind := 1; kind <= 2; kind++ {
			a := told(kind, 1, shape...)
			everything := slices.Repeat([]api.Axis{all()}, len(shape))
			is(t, "Index by all", must(t)(pick.Index(a, everything)), a)
			if len(shape) > 0 {
				is(t, "Compress by 1", must(t)(pick.Compress(number(1), a)), a)
			}
		}
	}
}

// Compress leaves the elements that index picks when the indices are repeated likewise.
func TestCompressIsAnIndex(t *testing.T) {
	r := noise(23)
	for range 500 {
		shape := append(r.shape(), r.below(5))
		if len(shape) > 4 {
			continue
		}
		l, repeated := vector(), vector()
		for i := range shape[len(shape)-1] {
			n := r.below(3)
			l.Elems = append(l.Elems, int64(n))
			for range n {
				repeated.Elems = append(repeated.Elems, int64(i)+1)
			}
		}
		l.Shape, repeated.Shape = []int{len(l.Elems)}, []int{len(repeated.Elems)}
		axes := append(slices.Repeat([]api.Axis{all()}, len(shape)-1), at(repeated))
		a := told(1, 1, shape...)
		is(t, "Compress", must(t)(pick.Compress(l, a)), must(t)(pick.Index(a, axes)))
	}
}

// Applying the gather maps gives the results of the functions.
func TestMapsGiveTheResults(t *testing.T) {
	for _, shape := range fewShapes() {
		for kind := 1; kind <= 2; kind++ {
			a := told(kind, 97, shape...)
			for _, l := range selectionsOf(shape) {
				w, e := pick.IndexWay(shape, l)
				want(t, "IndexWay", e, api.OK)
				goes(t, "IndexWay", w, must(t)(pick.Index(a, l)), a)
			}
			for _, l := range listsOf(shape) {
				w, e := pick.CompressWay(l, shape)
				want(t, "CompressWay", e, api.OK)
				goes(t, "CompressWay", w, must(t)(pick.Compress(l, a)), a)
			}
		}
	}
}
