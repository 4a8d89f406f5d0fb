package crc_test

import (
	"math"
	"slices"
	"testing"

	"quadrat/api"
	"quadrat/crc"
)

// joins fails unless Join answers that sum.
func joins(t *testing.T, first, second uint32, n int, asked uint32) {
	t.Helper()
	got, e := crc.Join(first, second, n)
	if e != api.OK || got != asked {
		t.Errorf("Join(%08X, %08X, %d): %08X, error %d, want %08X", first, second, n, got, e, asked)
	}
}

// leap does the same to each bit on its own; the list says what it makes of each.
type leap [32]uint32

// of is what a leap makes of v.
func (l leap) of(v uint32) uint32 {
	sum := uint32(0)
	for i, x := range l {
		if v>>i&1 == 1 {
			sum ^= x
		}
	}
	return sum
}

// then is one leap behind another one.
func (l leap) then(m leap) leap {
	for i, x := range l {
		l[i] = m.of(x)
	}
	return l
}

// eightSteps is a leap of so many times eight steps.
func eightSteps(n uint64) leap {
	var all, square leap
	for i := range 32 {
		all[i] = 1 << i
		square[i] = times(8, step, 1<<i)
	}
	for ; n > 0; n >>= 1 {
		if n&1 == 1 {
			all = all.then(square)
		}
		square = square.then(square)
	}
	return all
}

func TestJoinOfBytes(t *testing.T) {
	lengths := []int{0, 1, 2, 3, 4, 5, 7, 8, 9, 31, 32, 33, 100, 1000}
	for _, n := range lengths {
		for _, m := range lengths {
			a, b := noise(uint32(n), n), noise(uint32(m)+7, m)
			joins(t, plain(a), plain(b), m, plain(slices.Concat(a, b)))
		}
	}
	joins(t, crc.Of([]byte("1234")), crc.Of([]byte("56789")), 5, 0xCBF43926)
}

func TestJoinOfMoreThanTwo(t *testing.T) {
	all := noise(4, 90)
	sum := uint32(0)
	for i := 0; i < len(all); i += 9 {
		part := all[i : i+9]
		joined, e := crc.Join(sum, crc.Of(part), len(part))
		want(t, "Join", e, api.OK)
		sum = joined
		same(t, "Join, part by part", sum, plain(all[:i+9]))
	}
}

func TestJoinStepsOnWhateverTheSumsAre(t *testing.T) {
	for _, first := range odd() {
		stepped := first
		for n := range 70 {
			for _, second := range []uint32{0, 1, 0x80000000, 0xDEADBEEF, 0xFFFFFFFF, first} {
				joins(t, first, second, n, second^stepped)
			}
			stepped = times(8, step, stepped)
		}
	}
}

func TestJoinOfNoBytes(t *testing.T) {
	for _, first := range odd() {
		joins(t, first, 0, 0, first)
		for _, second := range odd() { // no bytes at all have another sum than 0, and all the same it is answered
			joins(t, first, second, 0, first^second)
		}
	}
}

func TestJoinOfManyBytes(t *testing.T) {
	for _, n := range []int{255, 256, 257, 4095, 65535, 65536, 1_000_000} {
		a, b := noise(2, 10), noise(6, n)
		joins(t, plain(a), plain(b), n, plain(slices.Concat(a, b)))
	}
}

func TestJoinOfAVeryGreatN(t *testing.T) {
	// Of the greatest of these, 8 n goes beyond 64 bits; a loop of n turns would not end.
	for _, n := range []int{1 << 28, 1<<29 - 1, 1 << 31, 1<<32 - 2, 1<<32 - 1, 1 << 32, 1<<40 + 3, 1 << 60, 1 << 61, 1<<61 + 1, 1 << 62, math.MaxInt - 1, math.MaxInt} {
		all := eightSteps(uint64(n))
		for _, first := range odd() {
			for _, second := range []uint32{0, 0xDEADBEEF} {
				joins(t, first, second, n, second^all.of(first))
			}
		}
	}
}

func TestJoinComesRound(t *testing.T) {
	const round = 1<<32 - 1 // so many steps, or eight times as many, lead back to where they began
	for _, first := range odd() {
		joins(t, first, 0, round, first)
		joins(t, first, 99, round+1, times(8, step, first)^99)
		joins(t, first, 0, math.MaxInt/round*round, first)
	}
}

func TestJoinOfANegativeN(t *testing.T) {
	for _, n := range []int{-1, -2, -5, -8, math.MinInt32, math.MinInt + 1, math.MinInt} {
		sum, e := crc.Join(0xCBF43926, 0x12345678, n)
		want(t, "Join", e, api.ErrArg)
		same(t, "beside an error", sum, 0)
	}
}
