package scalar_test

import (
	"math"
	"math/big"
	"slices"
	"testing"

	"quadrat/api"
	"quadrat/scalar"
)

const (
	least    = math.MinInt64
	greatest = math.MaxInt64
)

// The functions of one number and of two, as the chapter lists them.
var (
	unary  = []int{1, 2, 3, 5, 17}
	binary = []int{1, 2, 3, 4, 5, 6, 7, 8, 9, 10, 11, 12, 13, 14, 15, 16}
)

// noFunctions are numbers that no function of this layer has.
func noFunctions() []int {
	return []int{0, -1, -2, -8, -17, -18, 18, 19, 20, 25, 31, 32, 255, 256, 257, 1 << 31, 1 << 32, 1<<32 + 1, 1<<32 + 9, -1 << 32, least, least + 1, greatest, greatest - 1}
}

// anyFunctions are all functions' numbers, and some that no function has.
func anyFunctions() []int {
	return append(noFunctions(), 1, 2, 3, 4, 5, 6, 7, 8, 9, 10, 11, 12, 13, 14, 15, 16, 17)
}

// without are the functions' numbers, and some that no function has, less those of a list.
func without(list []int) []int {
	return slices.DeleteFunc(anyFunctions(), func(f int) bool { return slices.Contains(list, f) })
}

// want fails unless an error is the one that is asked for.
func want(t *testing.T, what string, got, asked api.Errno) {
	t.Helper()
	if got != asked {
		t.Errorf("%s: error %d, want %d", what, got, asked)
	}
}

// answer is what a function of numbers answers.
type answer struct {
	n int64
	e api.Errno
}

// two is what Two answers.
func two(f int, x, y int64) answer {
	n, e := scalar.Two(f, x, y)
	return answer{n, e}
}

// one is what One answers.
func one(f int, y int64) answer {
	n, e := scalar.One(f, y)
	return answer{n, e}
}

// number is an answer without an error.
func number(n int64) answer { return answer{n: n} }

// fault is an answer that has nothing but an error.
func fault(e api.Errno) answer { return answer{e: e} }

// overflow is the answer where a number does not fit.
func overflow() answer { return fault(api.ErrOverflow) }

// truthOf is 1 or 0, as something is so or not.
func truthOf(is bool) answer {
	if is {
		return number(1)
	}
	return number(0)
}

// isTruth says whether all numbers are 0 or 1.
func isTruth(numbers ...int64) bool {
	return !slices.ContainsFunc(numbers, func(n int64) bool { return n != 0 && n != 1 })
}

// fitted is a number of any size, as the answer that it has to be.
func fitted(n *big.Int) answer {
	if !n.IsInt64() {
		return overflow()
	}
	return number(n.Int64())
}

// of is a number that may become one of any size.
func of(n int64) *big.Int { return big.NewInt(n) }

// down is x divided by y, which is not 0, rounded down.
func down(x, y int64) *big.Int {
	quotient, rest := new(big.Int), new(big.Int)
	quotient.QuoRem(of(x), of(y), rest)
	if rest.Sign() != 0 && rest.Sign() != of(y).Sign() {
		quotient.Sub(quotient, of(1))
	}
	return quotient
}

// powerOf is x to the power y, as the chapter words it.
func powerOf(x, y int64) answer {
	switch {
	case y == 0:
		return number(1)
	case x == 1:
		return number(1)
	case x == -1 && y%2 == 0:
		return number(1)
	case x == -1:
		return number(-1)
	case y < 0:
		return fault(api.ErrDomain)
	case x == 0:
		return number(0)
	case y > 64:
		return overflow()
	}
	return fitted(new(big.Int).Exp(of(x), of(y), nil))
}

// twoOf is what the chapter's table has for a function of two numbers, worked out with numbers of any size.
func twoOf(f int, x, y int64) answer {
	switch f {
	case 1:
		return fitted(new(big.Int).Add(of(x), of(y)))
	case 2:
		return fitted(new(big.Int).Sub(of(x), of(y)))
	case 3:
		return fitted(new(big.Int).Mul(of(x), of(y)))
	case 4:
		if y == 0 {
			return fault(api.ErrZero)
		}
		return fitted(down(x, y))
	case 5:
		if x == 0 {
			return number(y)
		}
		return fitted(new(big.Int).Sub(of(y), new(big.Int).Mul(of(x), down(y, x))))
	case 6, 7:
		if of(x).Cmp(of(y)) < 0 == (f == 6) {
			return number(x)
		}
		return number(y)
	case 8:
		return powerOf(x, y)
	}
	return askedOf(f, x, y)
}

// askedOf is what the table has for a function that answers 0 or 1.
func askedOf(f int, x, y int64) answer {
	order := of(x).Cmp(of(y))
	switch f {
	case 9:
		return truthOf(order == 0)
	case 10:
		return truthOf(order != 0)
	case 11:
		return truthOf(order < 0)
	case 12:
		return truthOf(order <= 0)
	case 13:
		return truthOf(order >= 0)
	case 14:
		return truthOf(order > 0)
	}
	switch {
	case f != 15 && f != 16:
		return fault(api.ErrArg)
	case !isTruth(x, y):
		return fault(api.ErrDomain)
	case f == 15:
		return truthOf(x == 1 && y == 1)
	}
	return truthOf(x == 1 || y == 1)
}

// oneOf is what the table has for a function of one number.
func oneOf(f int, y int64) answer {
	switch f {
	case 1:
		return number(y)
	case 2:
		return fitted(new(big.Int).Neg(of(y)))
	case 3:
		return number(int64(of(y).Sign()))
	case 5:
		return fitted(new(big.Int).Abs(of(y)))
	case 17:
		if !isTruth(y) {
			return fault(api.ErrDomain)
		}
		return truthOf(y == 0)
	}
	return fault(api.ErrArg)
}

// edges are numbers about which something turns.
func edges() []int64 {
	l := []int64{0, 2097151, 2097152, 3037000499, 3037000500, 6074000999, 6074001000, 3074457345618258602, 3074457345618258603, 4611686018427387903, greatest, greatest - 1, greatest - 2, least, least + 1, least + 2}
	for n := int64(1); n < 12; n++ {
		l = append(l, n)
	}
	for bit := 4; bit < 63; bit += 5 {
		l = append(l, 1<<bit-1, 1<<bit, 1<<bit+1)
	}
	l = append(l, 1<<31, 1<<32, 1<<62)
	for _, n := range slices.Clone(l) {
		if n > 0 {
			l = append(l, -n)
		}
	}
	return l
}

// nums is an array of numbers, which need not be valid.
func nums(shape []int, elems ...int64) api.Array {
	return api.Array{Kind: 1, Shape: shape, Elems: elems}
}

// chars is an array of characters, which need not be valid.
func chars(shape []int, elems ...int64) api.Array {
	return api.Array{Kind: 2, Shape: shape, Elems: elems}
}

// vector is a vector of numbers.
func vector(elems ...int64) api.Array { return nums([]int{len(elems)}, elems...) }

// text is a vector of characters.
func text(s string) api.Array {
	var elems []int64
	for _, c := range s {
		elems = append(elems, int64(c))
	}
	return chars([]int{len(elems)}, elems...)
}

// many are the numbers from 1 on, so many of them.
func many(n int) []int64 {
	l := []int64{}
	for i := range n {
		l = append(l, int64(i+1))
	}
	return l
}

// countOf is a valid shape's count; -1 if the shape is not valid.
func countOf(shape []int) int {
	count := of(1)
	for _, n := range shape {
		if n < 0 || n > 4096 {
			return -1
		}
		count.Mul(count, of(int64(n)))
	}
	if len(shape) > 4 || count.Cmp(of(4096)) > 0 {
		return -1
	}
	return int(count.Int64())
}

// is fails unless an array is the one that is asked for; nothing is the same as none.
func is(t *testing.T, what string, got, asked api.Array) {
	t.Helper()
	if got.Kind != asked.Kind || !slices.Equal(got.Shape, asked.Shape) || !slices.Equal(got.Elems, asked.Elems) {
		t.Errorf("%s: %v, want %v", what, got, asked)
	}
}

// maps fails unless MapTwo answers that array.
func maps(t *testing.T, f int, a, b, asked api.Array) {
	t.Helper()
	got, e := scalar.MapTwo(f, a, b)
	if e != api.OK {
		t.Errorf("MapTwo(%d, %v, %v): error %d, want %v", f, a, b, e, asked)
	}
	is(t, "MapTwo", got, asked)
}

// fails fails unless MapTwo answers that error, and nothing beside it.
func fails(t *testing.T, f int, a, b api.Array, asked api.Errno) {
	t.Helper()
	got, e := scalar.MapTwo(f, a, b)
	if e != asked {
		t.Errorf("MapTwo(%d, %v, %v): error %d, want %d", f, a, b, e, asked)
	}
	is(t, "MapTwo, beside its error", got, api.Array{})
}

// mapsOne fails unless MapOne answers that array.
func mapsOne(t *testing.T, f int, a, asked api.Array) {
	t.Helper()
	got, e := scalar.MapOne(f, a)
	if e != api.OK {
		t.Errorf("MapOne(%d, %v): error %d, want %v", f, a, e, asked)
	}
	is(t, "MapOne", got, asked)
}

// failsOne fails unless MapOne answers that error, and nothing beside it.
func failsOne(t *testing.T, f int, a api.Array, asked api.Errno) {
	t.Helper()
	got, e := scalar.MapOne(f, a)
	if e != asked {
		t.Errorf("MapOne(%d, %v): error %d, want %d", f, a, e, asked)
	}
	is(t, "MapOne, beside its error", got, api.Array{})
}

// noise yields numbers that look like chance and are always the same.
type noise uint64

// next is the next number.
func (r *noise) next() uint64 {
	*r = *r*6364136223846793005 + 1442695040888963407
	return uint64(*r>>32) ^ uint64(*r)<<20
}

// below is the next number, from 0 on and below n.
func (r *noise) below(n int) int { return int(r.next() % uint64(n)) }

// number is the next number of any size and sign.
func (r *noise) number() int64 { return int64(r.next()<<44|r.next()) >> r.below(64) }
