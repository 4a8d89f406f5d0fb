package fold

import (
	"slices"

	"quadrat/api"
	"quadrat/scalar"
)

// OuterShape is the shape of an outer product.
func OuterShape(f int, a, b api.Array) ([]int, api.Errno) {
	if e := check([]int{f}, a, b); e != api.OK {
		return nil, e
	}
	if e := scalar.Kinds(f, a.Kind, b.Kind); e != api.OK {
		return nil, e
	}
	return limited(a.Shape, b.Shape)
}

// InnerShape is the shape of an inner product, and how many pairs stand behind each element.
func InnerShape(f, g int, a, b api.Array) (shape []int, long int, e api.Errno) {
	if e = check([]int{f, g}, a, b); e != api.OK {
		return nil, 0, e
	}
	if long, e = pairs(a.Shape, b.Shape); e != api.OK {
		return nil, 0, e
	}
	if e = scalar.Kinds(g, a.Kind, b.Kind); e != api.OK {
		return nil, 0, e
	}
	if shape, e = limited(others(a.Shape), behindTheFirst(b.Shape)); e != api.OK {
		return nil, 0, e
	}
	return shape, long, api.OK
}

// pairs is how many elements a row of the first shape and a column of the second one have together. A scalar has as many as it is asked for, or one if nothing asks.
func pairs(a, b []int) (int, api.Errno) {
	switch {
	case len(a) == 0 && len(b) == 0:
		return 1, api.OK
	case len(a) == 0:
		return b[0], api.OK
	case len(b) > 0 && b[0] != a[len(a)-1]:
		return 0, api.ErrLength
	}
	return a[len(a)-1], api.OK
}

// behindTheFirst are the axes behind the first one; a scalar has none.
func behindTheFirst(shape []int) []int { return shape[min(len(shape), 1):] }

// Outer is an outer product.
func Outer(f int, a, b api.Array) (api.Array, api.Errno) {
	shape, e := OuterShape(f, a, b)
	if e != api.OK {
		return api.Array{}, e
	}
	// The shape has told already what the kinds have to say.
	of, _ := scalar.Mixed(f, a.Kind, b.Kind)
	return made(shape, func(n int) (int64, api.Errno) {
		return of(a.Elems[n/len(b.Elems)], b.Elems[n%len(b.Elems)])
	})
}

// Inner is an inner product. All results of the second function come ahead of the folding, as their errors do.
func Inner(f, g int, a, b api.Array) (api.Array, api.Errno) {
	shape, long, e := InnerShape(f, g, a, b)
	if e != api.OK {
		return api.Array{}, e
	}
	of, _ := scalar.Mixed(g, a.Kind, b.Kind)
	lines, columns := copies(a, long), copies(b, long)
	many := product(behindTheFirst(b.Shape))
	results := make([]int64, long)
	return made(shape, func(n int) (int64, api.Errno) {
		line, column := n/many, n%many
		for i := range results {
			x, e := of(lines[line*long+i], columns[i*many+column])
			if e != api.OK {
				return 0, e
			}
			results[i] = x
		}
		return Row(f, results)
	})
}

// copies are an array's elements; of a scalar, as many copies as a row or a column has elements.
func copies(a api.Array, long int) []int64 {
	if len(a.Shape) == 0 {
		return slices.Repeat(a.Elems, long)
	}
	return a.Elems
}
