package fold

import (
	"iter"

	"quadrat/api"
	"quadrat/array"
	"quadrat/scalar"
)

// Row is a row, folded. The numbers ahead of an error are left aside, as they may have others.
func Row(f int, l []int64) (int64, api.Errno) {
	value, fault := scalar.Identity(f)
	if fault != api.OK {
		return 0, fault
	}
folding:
	for i, x := range fromTheLast(l) {
		if i == len(l)-1 {
			value = x
			continue folding
		}
		value, fault = scalar.Two(f, x, value)
		if fault != api.OK {
			break folding
		}
	}
	return value, fault
}

// fromTheLast yields the numbers of a row with their indices, the last one first.
func fromTheLast(l []int64) iter.Seq2[int, int64] {
	return func(yield func(int, int64) bool) {
		for i := len(l) - 1; i >= 0; i-- {
			if !yield(i, l[i]) {
				return
			}
		}
	}
}

// Rows is how many there are, and how long they are.
func Rows(shape []int) (many, long int) {
	if _, e := array.Count(shape); e != api.OK {
		return 0, 0
	}
	if len(shape) == 0 {
		return 1, 1
	}
	return product(others(shape)), shape[len(shape)-1]
}

// others are the axes ahead of the last one; a scalar has none.
func others(shape []int) []int { return shape[:max(len(shape), 1)-1] }

// product is that of all lengths; 1 if there are none.
func product(lengths []int) int {
	p := 1
	for _, n := range lengths {
		p *= n
	}
	return p
}

// rows are those of an array of numbers, with the function that folds them.
type rows struct {
	f     int
	elems []int64
	long  int
}

// rowsOf are an array's rows, if they may be folded with a function.
func rowsOf(f int, a api.Array) (rows, api.Errno) {
	if e := check([]int{f}, a); e != api.OK {
		return rows{}, e
	}
	if a.Kind == api.KindChar {
		return rows{}, api.ErrDomain
	}
	_, long := Rows(a.Shape)
	return rows{f: f, elems: a.Elems, long: long}, api.OK
}

// whole is the fold of a row.
func (r rows) whole(row int) (int64, api.Errno) {
	return Row(r.f, r.elems[row*r.long:(row+1)*r.long])
}

// beginning is the fold of a row's elements up to a position. It is worked out anew at each of them: the order of folding lets none go on from the one before.
func (r rows) beginning(position int) (int64, api.Errno) {
	return Row(r.f, r.elems[position-position%r.long:position+1])
}
