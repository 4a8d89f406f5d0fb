package scalar

import (
	"cmp"

	"quadrat/api"
)

// pair is what a function is applied to: the left number and the right one. A function of one number takes the right one.
type pair struct{ x, y int64 }

// itself is the number as it is.
func (p pair) itself() (int64, api.Errno) { return p.y, api.OK }

// opposite is the number with the other sign, which the least one has not got.
func (p pair) opposite() (int64, api.Errno) {
	return pair{x: 0, y: p.y}.difference()
}

// sign is 1, 0 or -1.
func (p pair) sign() (int64, api.Errno) {
	return int64(cmp.Compare(p.y, 0)), api.OK
}

// magnitude is the absolute value.
func (p pair) magnitude() (int64, api.Errno) {
	if p.y < 0 {
		return p.opposite()
	}
	return p.y, api.OK
}

// not is 1 of 0, and 0 of 1.
func (p pair) not() (int64, api.Errno) {
	if !isTruth(p.y) {
		return 0, api.ErrDomain
	}
	return 1 - p.y, api.OK
}

// sum wraps round where it does not fit; then it lies on the wrong side of x.
func (p pair) sum() (int64, api.Errno) {
	n := p.x + p.y
	if (n > p.x) != (p.y > 0) {
		return 0, api.ErrOverflow
	}
	return n, api.OK
}

// difference wraps round as a sum does.
func (p pair) difference() (int64, api.Errno) {
	n := p.x - p.y
	if (n < p.x) != (p.y > 0) {
		return 0, api.ErrOverflow
	}
	return n, api.OK
}

// product is divided again to tell whether it fits. By -1 that would tell nothing: the quotient would wrap round as the product did.
func (p pair) product() (int64, api.Errno) {
	if p.y == -1 {
		return pair{y: p.x}.opposite()
	}
	n := p.x * p.y
	if p.y != 0 && n/p.y != p.x {
		return 0, api.ErrOverflow
	}
	return n, api.OK
}

// quotient is rounded down, also where it is negative. Only by -1 it may not fit.
func (p pair) quotient() (int64, api.Errno) {
	switch p.y {
	case 0:
		return 0, api.ErrZero
	case -1:
		return pair{y: p.x}.opposite()
	}
	n := p.x / p.y
	if p.x%p.y != 0 && (p.x < 0) != (p.y < 0) {
		n--
	}
	return n, api.OK
}

// residue is that of y modulo x: what its quotient leaves. It has the sign of x, unlike the rest that the language has.
func (p pair) residue() (int64, api.Errno) {
	if p.x == 0 {
		return p.y, api.OK
	}
	n := p.y % p.x
	if n != 0 && (n < 0) != (p.x < 0) {
		n += p.x
	}
	return n, api.OK
}

// minimum is the smaller number.
func (p pair) minimum() (int64, api.Errno) { return min(p.x, p.y), api.OK }

// maximum is the greater number.
func (p pair) maximum() (int64, api.Errno) { return max(p.x, p.y), api.OK }

// power is x to the power y. The numbers whose powers never grow are told ahead of the others, as y may be very great.
func (p pair) power() (int64, api.Errno) {
	switch {
	case p.y == 0 || p.x == 1:
		return 1, api.OK
	case p.x == -1:
		return 1 - 2*(p.y&1), api.OK
	case p.y < 0:
		return 0, api.ErrDomain
	case p.x == 0:
		return 0, api.OK
	}
	return p.repeated()
}

// repeated is the product of y times x, which are at least 1 of a number other than 0, 1 and -1. Each product is at least twice as far from 0 as the one before it: soon one does not fit, and then none behind it does.
func (p pair) repeated() (int64, api.Errno) {
	n, e := p.x, api.OK
	for times := int64(1); times < p.y && e == api.OK; times++ {
		n, e = pair{x: n, y: p.x}.product()
	}
	return n, e
}

// equal says whether the numbers are the same.
func (p pair) equal() (int64, api.Errno) { return truth(p.x == p.y) }

// unequal says whether they are not.
func (p pair) unequal() (int64, api.Errno) { return truth(p.x != p.y) }

// less says whether the left number is the smaller one.
func (p pair) less() (int64, api.Errno) { return truth(p.x < p.y) }

// atMost says whether the left number is not the greater one.
func (p pair) atMost() (int64, api.Errno) { return truth(p.x <= p.y) }

// atLeast says whether the left number is not the smaller one.
func (p pair) atLeast() (int64, api.Errno) { return truth(p.x >= p.y) }

// greater says whether the left number is the greater one.
func (p pair) greater() (int64, api.Errno) { return truth(p.x > p.y) }

// and is 1 if both are.
func (p pair) and() (int64, api.Errno) {
	if !isTruth(p.x) || !isTruth(p.y) {
		return 0, api.ErrDomain
	}
	return p.x & p.y, api.OK
}

// or is 1 if one of them is, or both.
func (p pair) or() (int64, api.Errno) {
	if !isTruth(p.x) || !isTruth(p.y) {
		return 0, api.ErrDomain
	}
	return p.x | p.y, api.OK
}

// isTruth says whether a number stands for true or for false.
func isTruth(n int64) bool { return n == 0 || n == 1 }

// truth is the number that stands for true, or for false.
func truth(is bool) (int64, api.Errno) {
	if is {
		return 1, api.OK
	}
	return 0, api.OK
}
