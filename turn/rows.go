package turn

import (
	"slices"

	"quadrat/api"
	"quadrat/array"
	"quadrat/mold"
)

// reversed is the gather map of reverse.
func (s axes) reversed() (mold.Way, api.Errno) {
	return s.withinRows(func(_, index, length int) int { return length - 1 - index })
}

// rotated is the gather map of rotate. Amounts are taken round and round, as one may be for all rows.
func (s axes) rotated(l api.Array) (mold.Way, api.Errno) {
	if e := s.checkAmounts(l); e != api.OK {
		return mold.Way{}, e
	}
	amounts := slices.Clone(l.Elems)
	return s.withinRows(func(row, index, length int) int {
		return ahead(index, amounts[row%len(amounts)], length)
	})
}

// checkAmounts says whether rows may be rotated by these amounts: by one for all of them, or by as many as there are rows.
func (s axes) checkAmounts(l api.Array) api.Errno {
	_, e := array.Count(s)
	each := len(l.Shape) > 0
	switch {
	case e != api.OK || array.Check(l) != api.OK:
		return api.ErrArray
	case each && len(l.Shape) != len(s)-1:
		return api.ErrRank
	case each && !slices.Equal(l.Shape, s[:len(s)-1]):
		return api.ErrLength
	case l.Kind == api.KindChar:
		return api.ErrDomain
	}
	return api.OK
}

// ahead is the index that lies so far ahead of another in a row that begins again where it ends. The amount is brought below the row's length first, as there may be no room for its sum with an index.
func ahead(index int, amount int64, length int) int {
	steps := int(amount % int64(length))
	return (index + steps + length) % length
}

// withinRows is the gather map to an array of the same shape whose elements come from the same rows. A rule makes the index in the row, out of the row's number, the index in the result, and the row's length.
func (s axes) withinRows(rule func(row, index, length int) int) (mold.Way, api.Errno) {
	lengths, length := slices.Clone(s), s.rowLength()
	return s.gather(func(position int) int {
		index := lengths.number(position, len(lengths)-1)
		return position - index + rule(position/length, index, length)
	})
}
