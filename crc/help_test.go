package crc_test

import (
	"bytes"
	"testing"

	"quadrat/api"
)

// polynomial is the one that the chapter tells.
const polynomial = 0xEDB88320

// want fails unless an error is the one that is asked for.
func want(t *testing.T, what string, got, asked api.Errno) {
	t.Helper()
	if got != asked {
		t.Errorf("%s: error %d, want %d", what, got, asked)
	}
}

// same fails unless two sums are the same.
func same(t *testing.T, what string, got, asked uint32) {
	t.Helper()
	if got != asked {
		t.Errorf("%s: %08X, want %08X", what, got, asked)
	}
}

// holds fails unless two lists of bytes are the same.
func holds(t *testing.T, what string, got, asked []byte) {
	t.Helper()
	if !bytes.Equal(got, asked) {
		t.Errorf("%s: % X, want % X", what, got, asked)
	}
}

// step shifts by a bit, as the chapter's promise on Join words it.
func step(v uint32) uint32 {
	if v&1 == 1 {
		return v>>1 ^ polynomial
	}
	return v >> 1
}

// back is what a step makes v of: the polynomial's highest bit tells whether a 1 was shifted out.
func back(v uint32) uint32 {
	if v>>31 == 1 {
		return (v^polynomial)<<1 | 1
	}
	return v << 1
}

// times does a thing to v again and again.
func times(many int, thing func(uint32) uint32, v uint32) uint32 {
	for range many {
		v = thing(v)
	}
	return v
}

// through is what bytes leave of a register, bit by bit, as the chapter's terms word it.
func through(register uint32, b []byte) uint32 {
	for _, x := range b {
		for i := range 8 {
			carry := uint32(x)>>i&1 ^ register&1
			register >>= 1
			if carry == 1 {
				register ^= polynomial
			}
		}
	}
	return register
}

// plain is the checksum as the chapter's terms word it.
func plain(b []byte) uint32 { return ^through(0xFFFFFFFF, b) }

// forged is b with four more bytes, by which it has the sum.
func forged(b []byte, sum uint32) []byte {
	x := times(32, back, ^sum) ^ ^plain(b)
	return append(bytes.Clone(b), byte(x), byte(x>>8), byte(x>>16), byte(x>>24))
}

// isOfShort says whether fewer than four bytes can have the sum.
func isOfShort(sum uint32) bool {
	for n := range 4 {
		if ^times(8*n, back, ^sum)>>(8*n) == 0 {
			return true
		}
	}
	return false
}

// noise yields n bytes that look like chance and are always the same.
func noise(seed uint32, n int) []byte {
	b := make([]byte, n)
	for i := range b {
		seed = seed*1664525 + 1013904223
		b[i] = byte(seed >> 24)
	}
	return b
}

// odd are sums of no use of their own: the ends, single bits, and others. Fewer than four bytes have few of them.
func odd() []uint32 {
	l := []uint32{0, 0xFFFFFFFF, polynomial, 0xDEADBEEF, 0x12345678, 0xCBF43926, 0x7FFFFFFF, 0x55555555}
	for i := range 32 {
		l = append(l, 1<<i)
	}
	return l
}
