package turn_test

import (
	"math/big"
	"slices"
	"testing"

	"quadrat/api"
	"quadrat/mold"
	"quadrat/turn"
)

// model is what the chapter asks for: an error, or a shape and the place that each element comes from.
type model struct {
	shape  []int
	places []int
	e      api.Errno
}

// fault is a model that has nothing but an error.
func fault(e api.Errno) model { return model{e: e} }

// array is the array that a model makes of another.
func (m model) array(a api.Array) api.Array {
	made := api.Array{Kind: a.Kind, Shape: m.shape}
	for _, place := range m.places {
		made.Elems = append(made.Elems, a.Elems[place])
	}
	return made
}

// modelOf is the model of a valid shape that comes of another; a rule makes the index tuple of the other out of that of the result.
func modelOf(shape, from []int, rule func(p []int) []int) model {
	m := model{shape: shape}
	for _, p := range tuples(shape) {
		m.places = append(m.places, placeOf(from, rule(p)))
	}
	return m
}

// rowsOf are the lengths of the axes other than the last, and the last one's.
func rowsOf(shape []int) (others []int, length int) {
	return shape[:len(shape)-1], shape[len(shape)-1]
}

// reversed is the model of reverse.
func reversed(shape []int) model {
	switch {
	case countOf(shape) < 0:
		return fault(api.ErrArray)
	case len(shape) == 0:
		return model{places: []int{0}}
	}
	others, length := rowsOf(shape)
	return modelOf(shape, shape, func(p []int) []int {
		return append(slices.Clone(p[:len(others)]), length-p[len(others)]-1)
	})
}

// rotated is the model of rotate.
func rotated(l api.Array, shape []int) model {
	switch {
	case countOf(shape) < 0 || !isValid(l):
		return fault(api.ErrArray)
	case len(l.Shape) > 0 && len(l.Shape)+1 != len(shape):
		return fault(api.ErrRank)
	case len(l.Shape) > 0 && !slices.Equal(append(slices.Clone(l.Shape), shape[len(shape)-1]), shape):
		return fault(api.ErrLength)
	case l.Kind == 2:
		return fault(api.ErrDomain)
	case len(shape) == 0:
		return model{places: []int{0}}
	}
	others, length := rowsOf(shape)
	return modelOf(shape, shape, func(p []int) []int {
		row := p[:len(others)]
		amount := l.Elems[0]
		if len(l.Shape) > 0 {
			amount = l.Elems[placeOf(others, row)]
		}
		index := new(big.Int).Add(big.NewInt(int64(p[len(others)])), big.NewInt(amount))
		return append(slices.Clone(row), int(index.Mod(index, big.NewInt(int64(length))).Int64()))
	})
}

// transposed is the model of transpose.
func transposed(shape []int) model {
	if countOf(shape) < 0 {
		return fault(api.ErrArray)
	}
	return modelOf(backwards(shape), shape, backwards)
}

// backwards is a list in reverse order.
func backwards(l []int) []int {
	l = slices.Clone(l)
	slices.Reverse(l)
	return l
}

// permuted is the model of permute.
func permuted(l api.Array, shape []int) model {
	switch {
	case countOf(shape) < 0 || !isValid(l):
		return fault(api.ErrArray)
	case len(l.Shape) > 1:
		return fault(api.ErrRank)
	case l.Kind == 2:
		return fault(api.ErrDomain)
	case len(l.Elems) != len(shape):
		return fault(api.ErrLength)
	}
	lengths := make([]int, len(shape))
	for n := range int64(len(shape)) {
		axis := slices.Index(l.Elems, n+1)
		if axis < 0 {
			return fault(api.ErrDomain)
		}
		lengths[n] = shape[axis]
	}
	return modelOf(lengths, shape, func(p []int) []int {
		var q []int
		for _, n := range l.Elems {
			q = append(q, p[n-1])
		}
		return q
	})
}

// maps fails unless a gather map, made of what is given with it, is the model's: for each position, and nothing beside its error.
func maps(t *testing.T, what string, w mold.Way, e api.Errno, m model) {
	t.Helper()
	if e != m.e {
		t.Errorf("%s: error %d, want %d", what, e, m.e)
		return
	}
	if m.e != api.OK {
		isNoWay(t, what, w)
		return
	}
	if !slices.Equal(w.Shape, m.shape) || w.At == nil {
		t.Errorf("%s: a map of %v, want %v", what, w.Shape, m.shape)
		return
	}
	for n, asked := range m.places {
		if of, place := w.At(n); of != 0 || place != asked {
			t.Errorf("%s: position %d comes from %d, %d, want 0, %d", what, n, of, place, asked)
			return
		}
	}
}

// answers fails unless a call answers what the model makes of an array, or its error and nothing beside it.
func answers(t *testing.T, what string, got api.Array, e api.Errno, m model, a api.Array) {
	t.Helper()
	if !isValid(a) {
		m = fault(api.ErrArray)
	}
	want(t, what, e, m.e)
	if m.e != api.OK {
		is(t, what+", beside its error", got, api.Array{})
		return
	}
	is(t, what, got, m.array(a))
}

// goes fails unless a gather map makes an array of another.
func goes(t *testing.T, what string, w mold.Way, asked, a api.Array) {
	t.Helper()
	got, e := w.Go(a.Kind, a)
	want(t, what+", applied", e, api.OK)
	is(t, what+", applied", got, asked)
}

// alone is a function of an array, its gather map, and their model.
type alone struct {
	f   func(a api.Array) (api.Array, api.Errno)
	way func(shape []int) (mold.Way, api.Errno)
	m   func(shape []int) model
}

// ofOne are the functions of an array, by their names.
func ofOne() map[string]alone {
	return map[string]alone{"Reverse": {turn.Reverse, turn.ReverseWay, reversed}, "Transpose": {turn.Transpose, turn.TransposeWay, transposed}}
}

// beside is a function of other numbers and an array, its gather map, and their model.
type beside struct {
	f   func(l, a api.Array) (api.Array, api.Errno)
	way func(l api.Array, shape []int) (mold.Way, api.Errno)
	m   func(l api.Array, shape []int) model
}

// ofTwo are the functions of other numbers and an array, by their names.
func ofTwo() map[string]beside {
	return map[string]beside{"Rotate": {turn.Rotate, turn.RotateWay, rotated}, "Permute": {turn.Permute, turn.PermuteWay, permuted}}
}

// one fails unless a function of an array and its gather map answer what the model has, be it an error.
func one(t *testing.T, name string, a api.Array) {
	t.Helper()
	c := ofOne()[name]
	m := c.m(a.Shape)
	got, e := c.f(a)
	answers(t, name+" of "+short(a), got, e, m, a)
	w, e := c.way(a.Shape)
	maps(t, name+"Way of "+short(a), w, e, m)
	if isValid(a) && e == api.OK {
		goes(t, name+"Way of "+short(a), w, m.array(a), a)
	}
}

// two does the same for a function of other numbers and an array.
func two(t *testing.T, name string, l, a api.Array) {
	t.Helper()
	c := ofTwo()[name]
	m := c.m(l, a.Shape)
	got, e := c.f(l, a)
	answers(t, name+" of "+both(l, a), got, e, m, a)
	w, e := c.way(l, a.Shape)
	maps(t, name+"Way of "+both(l, a), w, e, m)
	if isValid(a) && e == api.OK {
		goes(t, name+"Way of "+both(l, a), w, m.array(a), a)
	}
}

// makesOne fails unless a function of an array answers another, as the model does.
func makesOne(t *testing.T, name string, a, asked api.Array) {
	t.Helper()
	got, e := ofOne()[name].f(a)
	want(t, name+" of "+short(a), e, api.OK)
	is(t, name+" of "+short(a), got, asked)
	one(t, name, a)
}

// makes fails unless a function of other numbers and an array answers another, as the model does.
func makes(t *testing.T, name string, l, a, asked api.Array) {
	t.Helper()
	got, e := ofTwo()[name].f(l, a)
	want(t, name+" of "+both(l, a), e, api.OK)
	is(t, name+" of "+both(l, a), got, asked)
	two(t, name, l, a)
}

// fails fails unless a function of other numbers and an array, and its gather map, answer that error, as the model does.
func fails(t *testing.T, name string, l, a api.Array, asked api.Errno) {
	t.Helper()
	_, e := ofTwo()[name].f(l, a)
	want(t, name+" of "+both(l, a), e, asked)
	wayFails(t, name, l, a.Shape, asked)
	two(t, name, l, a)
}

// wayFails fails unless a gather map's function answers that error, and nothing beside it.
func wayFails(t *testing.T, name string, l api.Array, shape []int, asked api.Errno) {
	t.Helper()
	w, e := ofTwo()[name].way(l, shape)
	want(t, name+"Way of "+short(l), e, asked)
	isNoWay(t, name+"Way of "+short(l), w)
}
