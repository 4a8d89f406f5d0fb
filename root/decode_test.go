package root_test

import (
	"bytes"
	"encoding/binary"
	"hash/crc32"
	"math"
	"testing"

	"quadrat/api"
	"quadrat/root"
)

func TestDecodeOfBytesThatAreNoSector(t *testing.T) {
	refused(t, "nil", nil)
	refused(t, "no bytes", []byte{})
	for _, r := range []api.Root{of(1), of(2), {N: 256}, {N: math.MaxUint64, Len: 3072, Sum: math.MaxUint32}} {
		b := laid(r)
		for size := range b {
			refused(t, "too few bytes", b[:size])
			refused(t, "too few bytes", b[len(b)-size:])
		}
		for _, x := range []byte{0, 1, 0x51, 255} {
			refused(t, "a byte more", append(bytes.Clone(b), x))
			refused(t, "a byte ahead", append([]byte{x}, b...))
		}
		refused(t, "twice", append(bytes.Clone(b), b...))
		refused(t, "two sectors", append(bytes.Clone(b), make([]byte, 128)...))
	}
	for _, size := range []int{1, 127, 128, 129, 256, 1 << 20} {
		refused(t, "zeros", make([]byte, size))
		refused(t, "bits", bytes.Repeat([]byte{255}, size))
	}
}

// A sector with fewer or more zeros, the checksum of which is right where it then stands, is none.
func TestDecodeOfMoreOrFewerZeros(t *testing.T) {
	whole := laid(of(7))
	for size := 20; size < 200; size++ {
		if size == 116 {
			continue
		}
		b := append(bytes.Clone(whole[:20]), make([]byte, size-20)...)
		b = binary.BigEndian.AppendUint32(b, crc32.ChecksumIEEE(b))
		refused(t, "another size", append(b, whole[120:]...))
	}
}

func TestDecodeOfAnotherMark(t *testing.T) {
	for _, r := range []api.Root{of(1), of(2)} {
		for i := range 4 {
			for x := range 256 {
				p := partsOf(r)
				if p.mark[i] != byte(x) {
					p.mark[i] = byte(x)
					refused(t, "a mark", p.bytes())
				}
			}
		}
	}
}

func TestDecodeOfAnotherNumber(t *testing.T) {
	p := partsOf(of(5))
	p.n, p.again = 0, 0
	refused(t, "N of 0", p.bytes())
	for _, n := range numbers() {
		p.n, p.again = n, n
		asked := of(5)
		asked.N = n
		if r, e := root.Decode(p.bytes()); e != api.OK || r != asked {
			t.Errorf("N of %d: error %d and %v", n, e, r)
		}
	}
}

func TestDecodeOfTwoNumbers(t *testing.T) {
	for _, n := range append(numbers(), 0) {
		for _, again := range append(numbers(), 0) {
			p := partsOf(of(5))
			p.n, p.again = n, again
			if n != again {
				refused(t, "two copies", p.bytes())
			}
		}
		for bit := range 64 {
			p := partsOf(of(5))
			p.n, p.again = n, n^1<<bit
			refused(t, "a bit of the second copy", p.bytes())
			p.n, p.again = n^1<<bit, n
			refused(t, "a bit of the first copy", p.bytes())
		}
	}
}

func TestDecodeOfAnotherLength(t *testing.T) {
	for _, length := range []uint32{3073, 3074, 4096, 1 << 16, 1<<16 + 5, 1 << 24, 1<<31 - 1, 1 << 31, 1<<31 + 5, math.MaxUint32 - 1, math.MaxUint32} {
		p := partsOf(of(5))
		p.length = length
		refused(t, "Len", p.bytes())
	}
	for _, length := range []uint32{0, 1, 255, 256, 3071, 3072} {
		p := partsOf(of(5))
		p.length = length
		asked := of(5)
		asked.Len = int(length)
		if r, e := root.Decode(p.bytes()); e != api.OK || r != asked {
			t.Errorf("Len of %d: error %d and %v", length, e, r)
		}
	}
}

// There is no Sum that a root can't have: another one with the right checksum is another root's, and with the old checksum it is none's.
func TestDecodeOfAnotherSum(t *testing.T) {
	for bit := range 32 {
		p, asked := partsOf(of(5)), of(5)
		p.sum, asked.Sum = p.sum^1<<bit, asked.Sum^1<<bit
		if r, e := root.Decode(p.bytes()); e != api.OK || r != asked {
			t.Errorf("bit %d of Sum: error %d and %v", bit, e, r)
		}
		b := laid(of(5))
		copy(b[16:20], p.bytes()[16:20])
		refused(t, "a bit of Sum, with the old checksum", b)
	}
}

func TestDecodeOfBytesThatAreNotZero(t *testing.T) {
	for _, r := range []api.Root{of(1), of(2)} {
		for at := range 96 {
			for _, x := range []byte{1, 16, 128, 255} {
				p := partsOf(r)
				p.rest[at] = x
				refused(t, "a byte that is not 0", p.bytes())
			}
		}
	}
}

func TestDecodeOfAWrongChecksum(t *testing.T) {
	for _, n := range numbers() {
		b := laid(of(n))
		for bit := range 32 {
			other := bytes.Clone(b)
			other[116+bit/8] ^= 1 << (bit % 8)
			refused(t, "a bit of the checksum", other)
		}
		binary.BigEndian.PutUint32(b[116:], ^crc32.ChecksumIEEE(b[:116]))
		refused(t, "the checksum, inverted", b)
		binary.LittleEndian.PutUint32(b[116:], crc32.ChecksumIEEE(b[:116]))
		refused(t, "the checksum's bytes the wrong way round", b)
		clear(b[116:120])
		refused(t, "no checksum", b)
	}
}

func TestDecodeOfATurnedBit(t *testing.T) {
	for _, n := range numbers() {
		b := laid(of(n))
		for bit := range 8 * len(b) {
			b[bit/8] ^= 1 << (bit % 8)
			refused(t, "a turned bit", b)
			b[bit/8] ^= 1 << (bit % 8)
		}
	}
}

// Whatever bytes with the right checksum are decoded, they are the sector of what comes out.
func TestDecodedBytesAreTheSector(t *testing.T) {
	r := noise(2)
	many, few := 0, 0
	for range 20_000 {
		p := partsOf(of(1 + r.next()>>r.below(64)))
		b := p.bytes()
		b[r.below(128)] = byte(r.below(256) >> r.below(8))
		if r.below(2) == 0 {
			at := 4 + r.below(16)
			b[at] = byte(r.below(256) >> r.below(8))
		}
		binary.BigEndian.PutUint32(b[116:], crc32.ChecksumIEEE(b[:116]))
		if r.below(2) == 0 {
			copy(b[120:], b[4:12])
		}
		told := api.Root{N: binary.BigEndian.Uint64(b[4:]), Len: int(binary.BigEndian.Uint32(b[12:])), Sum: binary.BigEndian.Uint32(b[16:])}
		if told.N < 1 || told.Len > 3072 || !bytes.Equal(laid(told), b) {
			few++
			refused(t, "any bytes", b)
			continue
		}
		many++
		accepted(t, "any bytes", told)
		if got, e := root.Decode(b); e != api.OK || got != told {
			t.Errorf("% X: error %d and %v, want %v", b, e, got, told)
		}
	}
	if many < 1000 || few < 1000 {
		t.Errorf("%d were decoded, %d refused", many, few)
	}
}
