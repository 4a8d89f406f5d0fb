package fold_test

import (
	"fmt"
	"slices"
	"testing"

	"quadrat/api"
	"quadrat/fold"
	"quadrat/scalar"
)

// model is what the chapter asks for: an error that stands ahead of those of elements, or a shape, how many pairs stand behind each element of an inner product, and the elements or their first error.
type model struct {
	ahead api.Errno
	shape []int
	long  int
	elems []int64
	late  api.Errno
}

// fault is a model that has nothing but an error that stands ahead of those of elements.
func fault(e api.Errno) model { return model{ahead: e} }

// array is a model's array, and its error.
func (m model) array() (api.Array, api.Errno) {
	switch {
	case m.ahead != api.OK:
		return api.Array{}, m.ahead
	case m.late != api.OK:
		return api.Array{}, m.late
	}
	return nums(m.shape, m.elems...), api.OK
}

// modelOf is the model of a shape, each of whose elements a rule makes of its index tuple.
func modelOf(shape []int, long int, rule func(p []int) (int64, api.Errno)) model {
	if countOf(shape) < 0 {
		return fault(api.ErrLimit)
	}
	m := model{shape: shape, long: long}
	for _, p := range tuples(shape) {
		x, e := rule(p)
		if e != api.OK {
			m.late = e
			return m
		}
		m.elems = append(m.elems, x)
	}
	return m
}

// early is the error of functions and arrays by themselves.
func early(functions []int, l ...api.Array) api.Errno {
	for _, f := range functions {
		if f < 1 || f > 16 {
			return api.ErrArg
		}
	}
	for _, a := range l {
		if !isValid(a) {
			return api.ErrArray
		}
	}
	return api.OK
}

// identityOf is the identity of a dyadic function, as layer 12 has it.
func identityOf(f int) int64 {
	return []int64{0, 0, 0, 1, 1, 0, greatest, least, 1, 1, 0, 0, 1, 1, 0, 1, 0}[f]
}

// foldOf is the fold of a row: the function of its first number and the fold of the others.
func foldOf(f int, l []int64) (int64, api.Errno) {
	switch len(l) {
	case 0:
		return identityOf(f), api.OK
	case 1:
		return l[0], api.OK
	}
	value, e := foldOf(f, l[1:])
	if e != api.OK {
		return 0, e
	}
	return scalar.Two(f, l[0], value)
}

// elemOf is an array's element at an index tuple.
func elemOf(a api.Array, p ...int) int64 { return a.Elems[placeOf(a.Shape, p)] }

// reduced is the model of reduce.
func reduced(f int, a api.Array) model {
	return ofRows(f, a, func(others []int, length int) model {
		return modelOf(others, 0, func(p []int) (int64, api.Errno) { return foldOf(f, lineOf(a, p, length)) })
	})
}

// scanned is the model of scan.
func scanned(f int, a api.Array) model {
	return ofRows(f, a, func(others []int, _ int) model {
		last := len(others)
		return modelOf(a.Shape, 0, func(p []int) (int64, api.Errno) { return foldOf(f, lineOf(a, p[:last], p[last]+1)) })
	})
}

// ofRows is the model of a function of rows: a rule makes it of the other axes and of the last one's length, if there is one.
func ofRows(f int, a api.Array, rule func(others []int, length int) model) model {
	e, last := early([]int{f}, a), len(a.Shape)-1
	switch {
	case e != api.OK:
		return fault(e)
	case a.Kind == 2:
		return fault(api.ErrDomain)
	case last < 0:
		return model{elems: a.Elems}
	}
	return rule(a.Shape[:last], a.Shape[last])
}

// lineOf is the beginning of the row of an array that has these indices along its other axes, so many elements of it.
func lineOf(a api.Array, p []int, long int) []int64 {
	var l []int64
	for i := range long {
		l = append(l, elemOf(a, append(slices.Clone(p), i)...))
	}
	return l
}

// takes says whether a function takes such kinds.
func takes(f, a, b int) bool { return f == eq || f == ne || a == 1 && b == 1 }

// twoOf is the function of two elements of such kinds.
func twoOf(f int, a, b int, x, y int64) (int64, api.Errno) {
	if a != b {
		return int64(f - eq), api.OK
	}
	return scalar.Two(f, x, y)
}

// outered is the model of outer product.
func outered(f int, a, b api.Array) model {
	switch {
	case early([]int{f}, a, b) != api.OK:
		return fault(early([]int{f}, a, b))
	case !takes(f, a.Kind, b.Kind):
		return fault(api.ErrDomain)
	}
	rank := len(a.Shape)
	return modelOf(append(slices.Clone(a.Shape), b.Shape...), 0, func(p []int) (int64, api.Errno) {
		return twoOf(f, a.Kind, b.Kind, elemOf(a, p[:rank]...), elemOf(b, p[rank:]...))
	})
}

// copiesOf is a scalar as so many copies; another array is as it is.
func copiesOf(a api.Array, n int) api.Array {
	if len(a.Shape) > 0 {
		return a
	}
	return api.Array{Kind: a.Kind, Shape: []int{n}, Elems: slices.Repeat(a.Elems, n)}
}

// innered is the model of inner product.
func innered(f, g int, a, b api.Array) model {
	if e := early([]int{f, g}, a, b); e != api.OK {
		return fault(e)
	}
	long := 1
	if len(a.Shape) > 0 {
		long = a.Shape[len(a.Shape)-1]
	} else if len(b.Shape) > 0 {
		long = b.Shape[0]
	}
	a, b = copiesOf(a, long), copiesOf(b, long)
	rank := len(a.Shape) - 1
	switch {
	case b.Shape[0] != long:
		return fault(api.ErrLength)
	case !takes(g, a.Kind, b.Kind):
		return fault(api.ErrDomain)
	}
	return modelOf(append(slices.Clone(a.Shape[:rank]), b.Shape[1:]...), long, func(p []int) (int64, api.Errno) {
		var l []int64
		for i := range long {
			x, y := append(slices.Clone(p[:rank]), i), append([]int{i}, p[rank:]...)
			n, e := twoOf(g, a.Kind, b.Kind, elemOf(a, x...), elemOf(b, y...))
			if e != api.OK {
				return 0, e
			}
			l = append(l, n)
		}
		return foldOf(f, l)
	})
}

// call is a function with its arguments, the function of the resulting shape, if there is one, and their model.
type call struct {
	name  string
	f     func() (api.Array, api.Errno)
	shape func() ([]int, int, api.Errno)
	m     model
}

// reduce is a call of Reduce.
func reduce(f int, a api.Array) call {
	return call{
		name: fmt.Sprint("Reduce of ", f, " and ", short(a)),
		f:    func() (api.Array, api.Errno) { return fold.Reduce(f, a) },
		m:    reduced(f, a),
	}
}

// scan is a call of Scan.
func scan(f int, a api.Array) call {
	return call{
		name: fmt.Sprint("Scan of ", f, " and ", short(a)),
		f:    func() (api.Array, api.Errno) { return fold.Scan(f, a) },
		m:    scanned(f, a),
	}
}

// outer is a call of Outer.
func outer(f int, a, b api.Array) call {
	return call{
		name: fmt.Sprint("Outer of ", f, " and ", both(a, b)),
		f:    func() (api.Array, api.Errno) { return fold.Outer(f, a, b) },
		shape: func() ([]int, int, api.Errno) {
			shape, e := fold.OuterShape(f, a, b)
			return shape, 0, e
		},
		m: outered(f, a, b),
	}
}

// inner is a call of Inner.
func inner(f, g int, a, b api.Array) call {
	return call{
		name:  fmt.Sprint("Inner of ", f, ", ", g, " and ", both(a, b)),
		f:     func() (api.Array, api.Errno) { return fold.Inner(f, g, a, b) },
		shape: func() ([]int, int, api.Errno) { return fold.InnerShape(f, g, a, b) },
		m:     innered(f, g, a, b),
	}
}

// one fails unless a call and the function of its shape answer what the model has, be it an error.
func one(t *testing.T, c call) {
	t.Helper()
	asked, e := c.m.array()
	got, ofGot := c.f()
	want(t, c.name, ofGot, e)
	is(t, c.name, got, asked)
	if c.shape == nil {
		return
	}
	shape, long, e := c.shape()
	want(t, c.name+", its shape", e, c.m.ahead)
	if !slices.Equal(shape, c.m.shape) || long != c.m.long {
		t.Errorf("%s: shape %v and %d pairs, want %v and %d", c.name, shape, long, c.m.shape, c.m.long)
	}
}

// makes fails unless a call answers that array, as the model does.
func makes(t *testing.T, c call, asked api.Array) {
	t.Helper()
	got, e := c.f()
	want(t, c.name, e, api.OK)
	is(t, c.name, got, asked)
	one(t, c)
}

// fails fails unless a call, and the function of its shape, answer an error that stands ahead of those of elements, as the model does.
func fails(t *testing.T, c call, asked api.Errno) {
	t.Helper()
	_, e := c.f()
	want(t, c.name, e, asked)
	if c.shape != nil {
		_, _, e = c.shape()
		want(t, c.name+", its shape", e, asked)
	}
	one(t, c)
}

// faults fails unless a call answers an error of an element, of which the function of its shape tells nothing, as the model does.
func faults(t *testing.T, c call, asked api.Errno) {
	t.Helper()
	_, e := c.f()
	want(t, c.name, e, asked)
	if c.shape != nil {
		_, _, e = c.shape()
		want(t, c.name+", its shape", e, api.OK)
	}
	one(t, c)
}
