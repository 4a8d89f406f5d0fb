package pick

import (
	"cmp"
	"slices"

	"quadrat/api"
	"quadrat/array"
	"quadrat/mold"
)

// Grade is the places in order.
func Grade(a api.Array, down bool) (api.Array, api.Errno) {
	switch {
	case array.Check(a) != api.OK:
		return api.Array{}, api.ErrArray
	case len(a.Shape) != 1:
		return api.Array{}, api.ErrRank
	}
	indices, e := mold.Iota(array.Scalar(int64(len(a.Elems))))
	slices.SortFunc(indices.Elems, order{elems: a.Elems, down: down}.compare)
	return indices, e
}

// order is the one of indices by the elements that are there: the least ones come first, or the greatest ones.
type order struct {
	elems []int64
	down  bool
}

// compare holds two indices against each other. Equal elements leave it to the indices which one comes first, whether the order is up or down.
func (o order) compare(i, j int64) int {
	x, y := o.elems[i-1], o.elems[j-1]
	if o.down {
		x, y = y, x
	}
	return cmp.Or(cmp.Compare(x, y), cmp.Compare(i, j))
}
