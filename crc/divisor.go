package crc

import (
	"iter"
	"sync"
)

// A register holds a polynomial over two elements, as the rest of a division: its highest bit is the power 0, its lowest one the power 31.
const (
	byteBits     = 8
	registerBits = 32

	powerZero = uint32(1) << (registerBits - 1)
	powerByte = powerZero >> byteBits
)

// divisor is the polynomial that is divided by, without its power 32, which every divisor has.
type divisor uint32

// ieee is the divisor of IEEE 802.3.
const ieee divisor = 0xEDB88320

// table is what each byte leaves of an empty register. It is filled when it is first asked for, and built sees to it that this is done once. Sums are worked out without it, so that none hangs on what is kept here: Entry alone asks it.
var (
	table [1 << byteBits]uint32
	built sync.Once
)

// fill builds the table.
func (d divisor) fill() {
	for b := range len(table) {
		table[b] = d.behind(byte(b))
	}
}

// lowFirst yields a byte's bits, the lowest one first.
func lowFirst(b byte) iter.Seq[uint32] {
	return func(yield func(uint32) bool) {
		for i := range byteBits {
			if !yield(uint32(b>>i) & 1) {
				return
			}
		}
	}
}

// behind is what a byte leaves of an empty register.
func (d divisor) behind(b byte) uint32 {
	register := uint32(0)
bits:
	for bit := range lowFirst(b) {
		carry := bit ^ register&1
		register >>= 1
		if carry == 0 {
			continue bits
		}
		register ^= uint32(d)
	}
	return register
}

// step is what a bit of 0 leaves of a register, which is the register multiplied by the power 1.
func (d divisor) step(register uint32) uint32 {
	if register&1 == 0 {
		return register >> 1
	}
	return register>>1 ^ uint32(d)
}

// product is the rest of two registers' product: the sum of the second one's multiples by each power that the first one has.
func (d divisor) product(first, second uint32) uint32 {
	sum := uint32(0)
	for power := range registerBits {
		if first&(powerZero>>power) != 0 {
			sum ^= second
		}
		second = d.step(second)
	}
	return sum
}

// zeros is what n bytes of zeros multiply a register by. It squares its way there, so that a great n takes little longer than a small one.
func (d divisor) zeros(n int) uint32 {
	factor := powerZero
	for square := powerByte; n > 0; n >>= 1 {
		if n&1 == 1 {
			factor = d.product(factor, square)
		}
		square = d.product(square, square)
	}
	return factor
}
