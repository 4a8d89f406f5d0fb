package pick_test

import (
	"fmt"
	"math/big"
	"slices"
	"testing"

	"quadrat/api"
	"quadrat/mold"
	"quadrat/pick"
)

// model is what the chapter asks for of index or compress: an error, or a shape and the place that each element comes from.
type model struct {
	shape  []int
	places []int
	e      api.Errno
}

// fault is a model that has nothing but an error.
func fault(e api.Errno) model { return model{e: e} }

// array is the array that a model makes of another.
func (m model) array(a api.Array) api.Array {
	made := api.Array{Kind: a.Kind, Shape: m.shape}
	for _, place := range m.places {
		made.Elems = append(made.Elems, a.Elems[place])
	}
	return made
}

// modelOf is the model of a shape that comes of another; a rule makes the index tuple of the other out of that of the result.
func modelOf(shape, from []int, rule func(p []int) []int) model {
	if countOf(shape) < 0 {
		return fault(api.ErrLimit)
	}
	m := model{shape: shape}
	for _, p := range tuples(shape) {
		m.places = append(m.places, placeOf(from, rule(p)))
	}
	return m
}

// indexed is the model of index.
func indexed(shape []int, l []api.Axis) model {
	var lengths []int
	e := api.OK
	for i, x := range l {
		switch {
		case x.All && i < len(shape):
			lengths = append(lengths, shape[i])
		case x.All:
		case !isValid(x.At):
			return fault(api.ErrArray)
		case x.At.Kind == 2:
			e = api.ErrDomain
		default:
			lengths = append(lengths, x.At.Shape...)
		}
	}
	switch {
	case countOf(shape) < 0:
		return fault(api.ErrArray)
	case len(l) != len(shape):
		return fault(api.ErrRank)
	case e != api.OK:
		return fault(e)
	case countOf(lengths) < 0:
		return fault(api.ErrLimit)
	}
	for i, x := range l {
		if !x.All && slices.ContainsFunc(x.At.Elems, func(n int64) bool { return n <= 0 || n > int64(shape[i]) }) {
			return fault(api.ErrIndex)
		}
	}
	return modelOf(lengths, shape, func(p []int) []int { return found(l, p) })
}

// found is the index tuple that selections make of one of the result.
func found(l []api.Axis, p []int) []int {
	var q []int
	for _, x := range l {
		rank, index := 1, 0
		if x.All {
			index = p[0]
		} else {
			rank = len(x.At.Shape)
			index = int(x.At.Elems[placeOf(x.At.Shape, p[:rank])]) - 1
		}
		q, p = append(q, index), p[rank:]
	}
	return q
}

// compressed is the model of compress.
func compressed(shape []int, l api.Array) model {
	switch {
	case countOf(shape) < 0 || !isValid(l):
		return fault(api.ErrArray)
	case len(l.Shape) > 1:
		return fault(api.ErrRank)
	case l.Kind == 2 || slices.ContainsFunc(l.Elems, func(n int64) bool { return n < 0 }):
		return fault(api.ErrDomain)
	}
	scalar, from := len(shape) == 0, shape
	if scalar {
		from = []int{len(l.Elems)}
	}
	others, length := from[:len(from)-1], from[len(from)-1]
	if len(l.Shape) == 1 && len(l.Elems) != length {
		return fault(api.ErrLength)
	}
	width := new(big.Int)
	for i := range length {
		width.Add(width, big.NewInt(l.Elems[i%len(l.Elems)]))
	}
	if width.Cmp(big.NewInt(4096)) > 0 {
		return fault(api.ErrLimit)
	}
	lengths := append(slices.Clone(others), int(width.Int64()))
	return modelOf(lengths, shape, func(p []int) []int {
		if scalar {
			return nil
		}
		index, passed := 0, l.Elems[0]
		for passed <= int64(p[len(others)]) {
			index++
			passed += l.Elems[index%len(l.Elems)]
		}
		return append(slices.Clone(p[:len(others)]), index)
	})
}

// call is a function of an array, its gather map, and their model, with the other arguments that they have.
type call struct {
	name string
	f    func(a api.Array) (api.Array, api.Errno)
	way  func(shape []int) (mold.Way, api.Errno)
	m    func(shape []int) model
}

// index is the call of index with these selections.
func index(l ...api.Axis) call {
	name := "Index by"
	for _, x := range l {
		if x.All {
			name += " all,"
		} else {
			name += " " + short(x.At) + ","
		}
	}
	return call{
		name: name,
		f:    func(a api.Array) (api.Array, api.Errno) { return pick.Index(a, l) },
		way:  func(shape []int) (mold.Way, api.Errno) { return pick.IndexWay(shape, l) },
		m:    func(shape []int) model { return indexed(shape, l) },
	}
}

// compress is the call of compress with this list.
func compress(l api.Array) call {
	return call{
		name: fmt.Sprint("Compress by ", short(l), ","),
		f:    func(a api.Array) (api.Array, api.Errno) { return pick.Compress(l, a) },
		way:  func(shape []int) (mold.Way, api.Errno) { return pick.CompressWay(l, shape) },
		m:    func(shape []int) model { return compressed(shape, l) },
	}
}

// maps fails unless a gather map is the model's: for each position, and nothing beside its error.
func maps(t *testing.T, what string, w mold.Way, e api.Errno, m model) {
	t.Helper()
	if e != m.e {
		t.Errorf("%s: error %d, want %d", what, e, m.e)
		return
	}
	if m.e != api.OK {
		isNoWay(t, what, w)
		return
	}
	if !slices.Equal(w.Shape, m.shape) || w.At == nil {
		t.Errorf("%s: a map of %v, want %v", what, w.Shape, m.shape)
		return
	}
	for n, asked := range m.places {
		if of, place := w.At(n); of != 0 || place != asked {
			t.Errorf("%s: position %d comes from %d, %d, want 0, %d", what, n, of, place, asked)
			return
		}
	}
}

// goes fails unless a gather map makes an array of another.
func goes(t *testing.T, what string, w mold.Way, asked, a api.Array) {
	t.Helper()
	got, e := w.Go(a.Kind, a)
	want(t, what+", applied", e, api.OK)
	is(t, what+", applied", got, asked)
}

// one fails unless a call and its gather map answer what the model has of an array, be it an error.
func one(t *testing.T, c call, a api.Array) {
	t.Helper()
	m := c.m(a.Shape)
	what := c.name + " of " + short(a)
	w, e := c.way(a.Shape)
	maps(t, "the map of "+what, w, e, m)
	if isValid(a) && e == api.OK {
		goes(t, "the map of "+what, w, m.array(a), a)
	}
	if !isValid(a) {
		m = fault(api.ErrArray)
	}
	got, e := c.f(a)
	want(t, what, e, m.e)
	if m.e != api.OK {
		is(t, what+", beside its error", got, api.Array{})
		return
	}
	is(t, what, got, m.array(a))
}

// makes fails unless a call makes an array of another, as the model does.
func makes(t *testing.T, c call, a, asked api.Array) {
	t.Helper()
	got, e := c.f(a)
	want(t, c.name+" of "+short(a), e, api.OK)
	is(t, c.name+" of "+short(a), got, asked)
	one(t, c, a)
}

// fails fails unless a call and its gather map answer that error, as the model does.
func fails(t *testing.T, c call, a api.Array, asked api.Errno) {
	t.Helper()
	_, e := c.f(a)
	want(t, c.name+" of "+short(a), e, asked)
	wayFails(t, c, a.Shape, asked)
	one(t, c, a)
}

// wayFails fails unless a gather map's function answers that error, and nothing beside it.
func wayFails(t *testing.T, c call, shape []int, asked api.Errno) {
	t.Helper()
	w, e := c.way(shape)
	want(t, "the map of "+c.name, e, asked)
	isNoWay(t, "the map of "+c.name, w)
}
