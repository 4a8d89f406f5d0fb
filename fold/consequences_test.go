package fold_test

import (
	"testing"

	"quadrat/api"
	"quadrat/fold"
	"quadrat/scalar"
)

// numbers are arrays of numbers with rows, some of which have no folds.
func numbers(seed noise, n int) []api.Array {
	l := []api.Array{number(7), vector(), vector(5), nums([]int{3, 0}), nums([]int{0, 3}), told(1, 1, 2, 3, 4)}
	for range n {
		shape := seed.shape()
		l = append(l, nums(shape, seed.numbers(countOf(shape))...))
	}
	return l
}

// The last element of a row of a scan is the fold of the row, and so it is that of the reduction.
func TestAScanEndsWithTheFold(t *testing.T) {
	for _, f := range dyadic() {
		for _, a := range numbers(21, 400) {
			all, e := fold.Scan(f, a)
			many, long := fold.Rows(a.Shape)
			if e != api.OK || long == 0 {
				continue
			}
			folds, e := fold.Reduce(f, a)
			want(t, "Reduce, where Scan has no error", e, api.OK)
			for n := range many {
				row, e := fold.Row(f, a.Elems[n*long:][:long])
				last := all.Elems[n*long+long-1]
				if e != api.OK || last != row || folds.Elems[n] != row {
					t.Errorf("Scan of %d and %s: row %d ends with %d, and its fold is %d, error %d", f, short(a), n, last, row, e)
				}
			}
		}
	}
}

// Where a fold has an error, the scan has one as well.
func TestAScanHasTheErrorsOfAFold(t *testing.T) {
	for _, f := range dyadic() {
		for _, a := range numbers(22, 400) {
			_, e := fold.Reduce(f, a)
			_, ofScan := fold.Scan(f, a)
			if e != api.OK && ofScan == api.OK {
				t.Errorf("Scan of %d and %s has no error, but Reduce has %d", f, short(a), e)
			}
		}
	}
}

// The fold of a row is the function of its first number and the fold of the others.
func TestAFoldGoesOnFromTheOthers(t *testing.T) {
	r := noise(23)
	for _, f := range dyadic() {
		for range 2000 {
			l := r.numbers(2 + r.below(7))
			got, e := fold.Row(f, l)
			value, fault := fold.Row(f, l[1:])
			if fault == api.OK {
				value, fault = scalar.Two(f, l[0], value)
			}
			if got != value || e != fault {
				t.Errorf("Row of %d and %v: %d, error %d; of the first number and the others: %d, error %d", f, l, got, e, value, fault)
			}
		}
	}
}

// Each element of an outer product is the function of its two elements.
func TestElementsOfAnOuterProduct(t *testing.T) {
	r := noise(24)
	for _, f := range dyadic() {
		for range 400 {
			a, b := r.array(r.shape()), r.array(r.shape())
			got, e := fold.Outer(f, a, b)
			if e != api.OK {
				continue
			}
			of, e := scalar.Mixed(f, a.Kind, b.Kind)
			want(t, "Mixed", e, api.OK)
			for i, x := range a.Elems {
				for j, y := range b.Elems {
					if n, e := of(x, y); e != api.OK || n != got.Elems[i*len(b.Elems)+j] {
						t.Errorf("Outer of %d and %s: %d and %d make %d", f, both(a, b), x, y, got.Elems[i*len(b.Elems)+j])
					}
				}
			}
		}
	}
}

// An inner product of two vectors is the reduction of the second function's results, or the error of one of both.
func TestAnInnerProductIsAReduction(t *testing.T) {
	r := noise(25)
	for _, f := range dyadic() {
		for range 1000 {
			g, n := 1+r.below(16), r.below(6)
			a, b := r.array([]int{n}), r.array([]int{n})
			got, e := fold.Inner(f, g, a, b)
			asked, fault := scalar.MapTwo(g, a, b)
			if fault == api.OK {
				asked, fault = fold.Reduce(f, asked)
			}
			want(t, "Inner of "+both(a, b), e, fault)
			is(t, "Inner of "+both(a, b), got, asked)
		}
	}
}

// An inner product has as its elements those of the rows and columns by themselves.
func TestAnInnerProductIsOfRowsAndColumns(t *testing.T) {
	r := noise(26)
	for range 2000 {
		f, g := 1+r.below(16), 1+r.below(16)
		many, long, wide := 1+r.below(4), r.below(4), 1+r.below(4)
		a, b := nums([]int{many, long}, r.numbers(many*long)...), nums([]int{long, wide}, r.numbers(long*wide)...)
		got, e := fold.Inner(f, g, a, b)
		if e != api.OK {
			continue
		}
		for i := range many {
			for j := range wide {
				column := vector()
				for k := range long {
					column.Elems = append(column.Elems, b.Elems[k*wide+j])
				}
				column.Shape = []int{long}
				makes(t, inner(f, g, vector(a.Elems[i*long:][:long]...), column), number(got.Elems[i*wide+j]))
			}
		}
	}
}

// The shapes are those of the products, and there is one beside each error of an element.
func TestShapesAreThoseOfProducts(t *testing.T) {
	r := noise(27)
	for range 3000 {
		f, g := 1+r.below(16), 1+r.below(16)
		a, b := r.array(r.shape()), r.array(r.shape())
		for _, c := range []call{outer(f, a, b), inner(f, g, a, b)} {
			got, e := c.f()
			shape, _, fault := c.shape()
			if e == api.OK {
				want(t, c.name+", its shape", fault, api.OK)
				is(t, c.name+", its shape", nums(shape, got.Elems...), got)
			}
			if fault != api.OK {
				want(t, c.name, e, fault)
			}
		}
	}
}
