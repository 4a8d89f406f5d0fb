package mold

import (
	"quadrat/api"
	"quadrat/array"
)

// Way is a shape, and where each element comes from.
type Way struct {
	Shape []int
	At    func(n int) (of, place int)
}

// noArray is the number of the array that a fill element comes from.
const noArray = -1

// gather is the gather map of a shape that nobody else has, or ErrLimit if there is no array of it. A rule is asked for the shape's positions alone, so it may divide by lengths; elsewhere there is nothing to come from anywhere.
func gather(shape []int, rule func(n int) (of, place int)) (Way, api.Errno) {
	count, e := array.Count(shape)
	if e != api.OK {
		return Way{}, api.ErrLimit
	}
	return Way{Shape: shape, At: func(n int) (of, place int) {
		if n < 0 || n >= count {
			return noArray, 0
		}
		return rule(n)
	}}, api.OK
}

// Go makes an array of others' elements. Each position is asked for its source, even behind an element that may not be in such an array, as a source that there is not tells first.
func (w Way) Go(kind int, l ...api.Array) (api.Array, api.Errno) {
	_, e := array.Count(w.Shape)
	if e != api.OK || !isKind(kind) || w.At == nil {
		return api.Array{}, api.ErrWay
	}
	astray := false
	a, e := array.Make(kind, w.Shape, func(n int) int64 {
		x, found := w.elem(n, kind, l)
		astray = astray || !found
		return x
	})
	if astray {
		return api.Array{}, api.ErrWay
	}
	return a, e
}

// elem is the element that comes to a position, and whether there is one. As At comes from outside, it may panic: then it names no source.
func (w Way) elem(n, kind int, l []api.Array) (x int64, found bool) {
	defer func() { _ = recover() }()
	of, place := w.At(n)
	switch {
	case of == noArray:
		return fillOf(kind), true
	case of < 0 || of >= len(l) || place < 0 || place >= len(l[of].Elems):
		return 0, false
	}
	return l[of].Elems[place], true
}

// isKind says whether there is such a kind.
func isKind(kind int) bool { return kind == api.KindNum || kind == api.KindChar }

// fillOf is the fill element of a kind.
func fillOf(kind int) int64 {
	if kind == api.KindChar {
		return ' '
	}
	return 0
}
