package mold_test

import (
	"fmt"
	"math/big"
	"slices"
	"testing"

	"quadrat/api"
	"quadrat/mold"
)

// source is where an element comes from: a place of an array, or, of the array -1, nowhere.
type source struct{ of, place int }

// model is what the chapter asks for: an error, or a shape and where each element comes from.
type model struct {
	shape   []int
	sources []source
	e       api.Errno
}

// fault is a model that has nothing but an error.
func fault(e api.Errno) model { return model{e: e} }

// array is the array that has a model's sources.
func (m model) array(kind int, l ...api.Array) api.Array {
	a := api.Array{Kind: kind, Shape: m.shape}
	for _, s := range m.sources {
		switch {
		case s.of >= 0:
			a.Elems = append(a.Elems, l[s.of].Elems[s.place])
		case kind == 2:
			a.Elems = append(a.Elems, 32)
		default:
			a.Elems = append(a.Elems, 0)
		}
	}
	return a
}

// listFault is the error of a valid array as a list.
func listFault(l api.Array) api.Errno {
	switch {
	case len(l.Shape) > 1:
		return api.ErrRank
	case l.Kind == 2:
		return api.ErrDomain
	}
	return api.OK
}

// reshaped is the model of reshape.
func reshaped(l api.Array, shape []int) model {
	count := countOf(shape)
	switch {
	case !isValid(l) || count < 0:
		return fault(api.ErrArray)
	case listFault(l) != api.OK:
		return fault(listFault(l))
	case slices.ContainsFunc(l.Elems, func(n int64) bool { return n < 0 }):
		return fault(api.ErrDomain)
	case countOf(l.Elems) < 0:
		return fault(api.ErrLimit)
	}
	m := model{shape: ints(l.Elems)}
	next := 0
	for range countOf(l.Elems) {
		if count == 0 {
			m.sources = append(m.sources, source{of: -1})
			continue
		}
		m.sources = append(m.sources, source{place: next})
		next++
		if next == count {
			next = 0
		}
	}
	return m
}

// ints are numbers that are lengths.
func ints(l []int64) []int {
	var out []int
	for _, n := range l {
		out = append(out, int(n))
	}
	return out
}

// picked is the model of an array of that shape each of whose axes keeps those indices; indices that the array has not stand for fill elements.
func picked(shape []int, indices [][]int) model {
	var m model
	for _, l := range indices {
		m.shape = append(m.shape, len(l))
	}
	for _, tuple := range tuples(m.shape) {
		at := []int{}
		for axis, i := range tuple {
			at = append(at, indices[axis][i])
		}
		place, has := placeOf(shape, at)
		s := source{place: place}
		if !has {
			s = source{of: -1}
		}
		m.sources = append(m.sources, s)
	}
	return m
}

// cutFault is the error that take and drop have in common.
func cutFault(l api.Array, shape []int) api.Errno {
	switch {
	case !isValid(l) || countOf(shape) < 0:
		return api.ErrArray
	case listFault(l) != api.OK:
		return listFault(l)
	case len(l.Elems) != max(1, len(shape)):
		return api.ErrLength
	}
	return api.OK
}

// size is a number's absolute value, of any size.
func size(n int64) *big.Int { return new(big.Int).Abs(big.NewInt(n)) }

// took is the model of take.
func took(l api.Array, shape []int) model {
	if e := cutFault(l, shape); e != api.OK {
		return fault(e)
	}
	if len(shape) == 0 {
		shape = []int{1}
	}
	lengths := []int{}
	for _, n := range l.Elems {
		if size(n).Cmp(big.NewInt(4096)) > 0 {
			return fault(api.ErrLimit)
		}
		lengths = append(lengths, int(size(n).Int64()))
	}
	if countOf(lengths) < 0 {
		return fault(api.ErrLimit)
	}
	indices := make([][]int, len(shape))
	for axis, length := range lengths {
		for i := range length {
			if l.Elems[axis] < 0 {
				i += shape[axis] - length
			}
			indices[axis] = append(indices[axis], i)
		}
	}
	return picked(shape, indices)
}

// left is the model of drop.
func left(l api.Array, shape []int) model {
	if e := cutFault(l, shape); e != api.OK {
		return fault(e)
	}
	if len(shape) == 0 {
		shape = []int{1}
	}
	indices := make([][]int, len(shape))
	for axis, n := range l.Elems {
		for i := range shape[axis] {
			away := size(n).Cmp(big.NewInt(int64(i))) > 0
			if n < 0 {
				away = size(n).Cmp(big.NewInt(int64(shape[axis]-i))) >= 0
			}
			if !away {
				indices[axis] = append(indices[axis], i)
			}
		}
	}
	return picked(shape, indices)
}

// joined is the model of catenate, for arrays of these shapes.
func joined(a, b []int) model {
	if countOf(a) < 0 || countOf(b) < 0 {
		return fault(api.ErrArray)
	}
	one, two := stretched(a, b), stretched(b, a)
	if len(one) != len(two) {
		return fault(api.ErrRank)
	}
	last := len(one) - 1
	for axis := range last {
		if one[axis] != two[axis] {
			return fault(api.ErrLength)
		}
	}
	m := model{shape: append(slices.Clone(one[:last]), one[last]+two[last])}
	if countOf(m.shape) < 0 {
		return fault(api.ErrLimit)
	}
	for _, tuple := range tuples(m.shape) {
		s, shape, of := source{}, one, a
		if tuple[last] >= one[last] {
			s.of, shape, of = 1, two, b
			tuple[last] -= one[last]
		}
		if len(of) > 0 {
			s.place, _ = placeOf(shape, tuple)
		}
		m.sources = append(m.sources, s)
	}
	return m
}

// stretched is the shape that catenate extends one to, beside another.
func stretched(shape, other []int) []int {
	long := slices.Clone(other)
	if len(shape) == 0 && len(other) > 0 {
		long[len(long)-1] = 1
		return long
	}
	if len(shape) == 0 || len(shape) == len(other)-1 {
		return append(slices.Clone(shape), 1)
	}
	return slices.Clone(shape)
}

// maps fails unless a gather map, made of what is given with it, is the model's: for each position, and nothing beside its error.
func maps(t *testing.T, what string, w mold.Way, e api.Errno, m model) {
	t.Helper()
	if e != m.e {
		t.Errorf("%s: error %d, want %d", what, e, m.e)
		return
	}
	if m.e != api.OK {
		isNoWay(t, what, w)
		return
	}
	if !slices.Equal(w.Shape, m.shape) || w.At == nil {
		t.Errorf("%s: a map of %v, want %v", what, w.Shape, m.shape)
		return
	}
	for n, s := range m.sources {
		of, place := w.At(n)
		if of != s.of || place != s.place {
			t.Errorf("%s: position %d comes from %d, %d, want %d, %d", what, n, of, place, s.of, s.place)
			return
		}
	}
}

// answers fails unless a call answers a model's array, or its error and nothing beside it.
func answers(t *testing.T, what string, got api.Array, e api.Errno, m model, kind int, l ...api.Array) {
	t.Helper()
	if e != m.e {
		t.Errorf("%s: error %d, want %d", what, e, m.e)
	}
	if m.e != api.OK {
		is(t, what+", beside its error", got, api.Array{})
		return
	}
	is(t, what, got, m.array(kind, l...))
}

// both are two arrays as a failed test tells them.
func both(a, b api.Array) string { return short(a) + " and " + short(b) }

// short is an array, without what would be too much to read.
func short(a api.Array) string {
	if len(a.Elems) > 20 {
		return fmt.Sprint(a.Kind, a.Shape, a.Elems[:20], "..")
	}
	return fmt.Sprint(a.Kind, a.Shape, a.Elems)
}

// reshapes fails unless Reshape and ReshapeWay answer what the model has.
func reshapes(t *testing.T, l, a api.Array) {
	t.Helper()
	if m := reshaped(l, a.Shape); isValid(a) {
		got, e := mold.Reshape(l, a)
		answers(t, "Reshape of "+both(l, a), got, e, m, a.Kind, a)
	}
	w, e := mold.ReshapeWay(l, a.Shape)
	maps(t, "ReshapeWay of "+both(l, a), w, e, reshaped(l, a.Shape))
}

// takes fails unless Take and TakeWay answer what the model has.
func takes(t *testing.T, l, a api.Array) {
	t.Helper()
	if m := took(l, a.Shape); isValid(a) {
		got, e := mold.Take(l, a)
		answers(t, "Take of "+both(l, a), got, e, m, a.Kind, a)
	}
	w, e := mold.TakeWay(l, a.Shape)
	maps(t, "TakeWay of "+both(l, a), w, e, took(l, a.Shape))
}

// drops fails unless Drop and DropWay answer what the model has.
func drops(t *testing.T, l, a api.Array) {
	t.Helper()
	if m := left(l, a.Shape); isValid(a) {
		got, e := mold.Drop(l, a)
		answers(t, "Drop of "+both(l, a), got, e, m, a.Kind, a)
	}
	w, e := mold.DropWay(l, a.Shape)
	maps(t, "DropWay of "+both(l, a), w, e, left(l, a.Shape))
}

// cats fails unless Cat and CatWay answer what the model has.
func cats(t *testing.T, a, b api.Array) {
	t.Helper()
	m := joined(a.Shape, b.Shape)
	w, e := mold.CatWay(a.Shape, b.Shape)
	maps(t, "CatWay of "+both(a, b), w, e, m)
	if !isValid(a) || !isValid(b) {
		m = fault(api.ErrArray)
	}
	if a.Kind != b.Kind && (m.e == api.OK || m.e == api.ErrLimit) {
		m = fault(api.ErrDomain)
	}
	got, e := mold.Cat(a, b)
	answers(t, "Cat of "+both(a, b), got, e, m, a.Kind, a, b)
}
