package scalar_test

import (
	"math/big"
	"testing"

	"quadrat/api"
)

func TestPowersByZeroAndOne(t *testing.T) {
	for _, x := range edges() {
		gives(t, api.FnPow, x, 0, number(1))
		gives(t, api.FnPow, x, 1, number(x))
	}
}

// The numbers whose powers never grow have them all, however great.
func TestPowersThatNeverGrow(t *testing.T) {
	for _, y := range append(edges(), 4, 5, 62, 63, 64, 65, 1000, 1001) {
		gives(t, api.FnPow, 1, y, number(1))
		sign := int64(1)
		if y%2 != 0 {
			sign = -1
		}
		gives(t, api.FnPow, -1, y, number(sign))
		switch {
		case y > 0:
			gives(t, api.FnPow, 0, y, number(0))
		case y < 0:
			gives(t, api.FnPow, 0, y, fault(api.ErrDomain))
		}
	}
	gives(t, api.FnPow, 0, 0, number(1))
	gives(t, api.FnPow, -1, greatest, number(-1))
	gives(t, api.FnPow, -1, least, number(1))
	gives(t, api.FnPow, -1, least+1, number(-1))
	gives(t, api.FnPow, 1, least, number(1))
	gives(t, api.FnPow, 0, greatest, number(0))
	gives(t, api.FnPow, 0, least, fault(api.ErrDomain))
}

func TestPowersBelowNothing(t *testing.T) {
	for _, x := range edges() {
		for _, y := range []int64{-1, -2, -3, -63, -64, least, least + 1} {
			if x != 1 && x != -1 {
				gives(t, api.FnPow, x, y, fault(api.ErrDomain))
			}
		}
	}
}

func TestPowersOfSmallNumbers(t *testing.T) {
	gives(t, api.FnPow, 2, 10, number(1024))
	gives(t, api.FnPow, -2, 10, number(1024))
	gives(t, api.FnPow, -2, 11, number(-2048))
	gives(t, api.FnPow, 3, 4, number(81))
	gives(t, api.FnPow, -3, 3, number(-27))
	gives(t, api.FnPow, 7, 2, number(49))
	gives(t, api.FnPow, 10, 18, number(1_000_000_000_000_000_000))
	gives(t, api.FnPow, 10, 19, overflow())
	for x := int64(-12); x <= 12; x++ {
		for y := int64(-3); y <= 130; y++ {
			gives(t, api.FnPow, x, y, powerOf(x, y))
		}
	}
}

// Powers that are just numbers of 64 bits, and those that are just none.
func TestPowersAtTheLimits(t *testing.T) {
	gives(t, api.FnPow, 2, 62, number(1<<62))
	gives(t, api.FnPow, 2, 63, overflow())
	gives(t, api.FnPow, 2, 64, overflow())
	gives(t, api.FnPow, -2, 62, number(1<<62))
	gives(t, api.FnPow, -2, 63, number(least))
	gives(t, api.FnPow, -2, 64, overflow())
	gives(t, api.FnPow, -2, 65, overflow())
	gives(t, api.FnPow, 4, 31, number(1<<62))
	gives(t, api.FnPow, 4, 32, overflow())
	gives(t, api.FnPow, -8, 21, number(least))
	gives(t, api.FnPow, 8, 21, overflow())
	gives(t, api.FnPow, -128, 9, number(least))
	gives(t, api.FnPow, -512, 7, number(least))
	gives(t, api.FnPow, -2097152, 3, number(least))
	gives(t, api.FnPow, 2097152, 3, overflow())
	gives(t, api.FnPow, 2097151, 3, number(9223358842721533951))
	gives(t, api.FnPow, 3, 39, number(4052555153018976267))
	gives(t, api.FnPow, 3, 40, overflow())
	gives(t, api.FnPow, -3, 39, number(-4052555153018976267))
	gives(t, api.FnPow, -3, 40, overflow())
	gives(t, api.FnPow, -3, 41, overflow())
	gives(t, api.FnPow, 3037000499, 2, number(9223372030926249001))
	gives(t, api.FnPow, -3037000499, 2, number(9223372030926249001))
	gives(t, api.FnPow, 3037000500, 2, overflow())
	gives(t, api.FnPow, 1<<32, 2, overflow())
	gives(t, api.FnPow, 1<<31, 2, number(1<<62))
	gives(t, api.FnPow, greatest, 2, overflow())
	gives(t, api.FnPow, least, 2, overflow())
	gives(t, api.FnPow, least, 3, overflow())
}

// The greatest number that has a power of 64 bits, and the next one, for each power that grows.
func TestGreatestNumbersThatHaveAPower(t *testing.T) {
	for y := int64(2); y < 64; y++ {
		x := int64(1)
		for step := int64(1 << 32); step > 0; step /= 2 {
			if new(big.Int).Exp(of(x+step), of(y), nil).IsInt64() {
				x += step
			}
		}
		gives(t, api.FnPow, x, y, fitted(new(big.Int).Exp(of(x), of(y), nil)))
		gives(t, api.FnPow, x+1, y, overflow())
		gives(t, api.FnPow, -x, y, fitted(new(big.Int).Exp(of(-x), of(y), nil)))
		gives(t, api.FnPow, -x-2, y, overflow())
	}
}

// Powers by great numbers answer at once: what they are can't be found by so many products.
func TestPowersByGreatNumbers(t *testing.T) {
	for _, x := range edges() {
		for _, y := range []int64{64, 65, 1 << 20, 1<<32 + 1, 1 << 62, greatest - 1, greatest} {
			asked := overflow()
			switch {
			case x == 0 || x == 1 || x == -1 && y%2 != 0:
				asked = number(x)
			case x == -1:
				asked = number(1)
			}
			gives(t, api.FnPow, x, y, asked)
		}
	}
}
