package turn

import (
	"slices"

	"quadrat/api"
	"quadrat/array"
	"quadrat/mold"
)

// transposed is the gather map of transpose.
func (s axes) transposed() (mold.Way, api.Errno) {
	var order []int
	for axis := range s {
		order = append(order, len(s)-1-axis)
	}
	return s.reordered(order)
}

// permuted is the gather map of permute.
func (s axes) permuted(l api.Array) (mold.Way, api.Errno) {
	order, e := s.order(l)
	if e != api.OK {
		return mold.Way{}, e
	}
	return s.reordered(order)
}

// order is where a list puts each axis, counted from 0. The shape is asked first, as one that is not valid tells ahead of what may be wrong with the list's rank and kind.
func (s axes) order(l api.Array) ([]int, api.Errno) {
	if _, e := array.Count(s); e != api.OK {
		return nil, e
	}
	numbers, e := mold.List(l)
	switch {
	case e != api.OK:
		return nil, e
	case len(numbers) != len(s):
		return nil, api.ErrLength
	}
	var order []int
	for _, n := range numbers {
		if n < 1 || n > int64(len(s)) || slices.Contains(order, int(n-1)) {
			return nil, api.ErrDomain
		}
		order = append(order, int(n-1))
	}
	return order, api.OK
}

// reordered is the gather map to an array whose axes are these ones, each put where an order says.
func (s axes) reordered(order []int) (mold.Way, api.Errno) {
	from, to := slices.Clone(s), make(axes, len(s))
	for axis, at := range order {
		to[at] = from[axis]
	}
	return to.gather(func(position int) (place int) {
		for axis, length := range from {
			place = place*length + to.number(position, order[axis])
		}
		return place
	})
}
