package journal_test

import (
	"bytes"
	"math"
	"testing"

	"quadrat/api"
	"quadrat/journal"
)

// The terms' own layout, byte by byte.
func TestSectorOfARecord(t *testing.T) {
	b, e := journal.Encode(0x0102030405060708, 0xA1A2A3A4A5A6A7A8, []byte("abc"))
	want(t, "Encode", e, api.OK)
	if len(b) != 128 {
		t.Fatalf("%d bytes", len(b))
	}
	holds(t, "what is ahead of the zeros", b[:23], []byte{
		0x51, 0x4A, 0x01,
		3,
		1, 2, 3, 4, 5, 6, 7, 8,
		0xA1, 0xA2, 0xA3, 0xA4, 0xA5, 0xA6, 0xA7, 0xA8,
		0x61, 0x62, 0x63,
	})
	holds(t, "the zeros", b[23:108], make([]byte, 85))
	holds(t, "the checksum", b[108:112], []byte{0xC5, 0x38, 0x41, 0xFC})
	holds(t, "the epoch again", b[112:120], []byte{1, 2, 3, 4, 5, 6, 7, 8})
	holds(t, "the number again", b[120:], []byte{0xA1, 0xA2, 0xA3, 0xA4, 0xA5, 0xA6, 0xA7, 0xA8})
}

func TestPayloads(t *testing.T) {
	accepted(t, "no payload", 7, 1, nil)
	for size := 0; size <= 64; size++ {
		accepted(t, "a payload", 7, 1, of(1, size))
		accepted(t, "a payload of zeros", 7, 1, make([]byte, size))
		accepted(t, "a payload of bits", math.MaxUint64, math.MaxUint64, bytes.Repeat([]byte{255}, size))
	}
	for x := range 256 {
		accepted(t, "a payload of a byte", 0, 9, []byte{byte(x)})
		accepted(t, "a last byte", 0, 9, append(of(2, 63), byte(x)))
	}
	for size := 65; size <= 400; size++ {
		barred(t, "too long a payload", 7, 1, of(1, size))
		barred(t, "too many zeros", 7, 1, make([]byte, size))
	}
	for _, size := range []int{512, 65535, 65536, 65600, 1 << 20} {
		barred(t, "much too long a payload", 7, 1, of(1, size))
	}
}

func TestNumbers(t *testing.T) {
	for _, number := range greats() {
		for _, epoch := range append(greats(), 0) {
			accepted(t, "a number and an epoch", epoch, number, []byte("xy"))
		}
		accepted(t, "a number, and no payload", 0, number, nil)
	}
	for _, epoch := range append(greats(), 0) {
		barred(t, "a number of 0", epoch, 0, []byte("xy"))
		barred(t, "a number of 0, and no payload", epoch, 0, nil)
		barred(t, "a number of 0, and too long a payload", epoch, 0, of(1, 65))
		refused(t, "a number of 0", laid(epoch, 0, []byte("xy")))
	}
}

func TestOtherRecordsHaveOtherSectors(t *testing.T) {
	owner := make(map[string]parts)
	for _, epoch := range []uint64{0, 1, 256, 1 << 32, 1 << 63} {
		for _, number := range []uint64{1, 256, 1 << 32, 1 << 63} {
			for size := range 65 {
				for _, payload := range [][]byte{make([]byte, size), of(1, size)} {
					b, e := journal.Encode(epoch, number, payload)
					want(t, "Encode", e, api.OK)
					p := partsOf(epoch, number, payload)
					if other, is := owner[string(b)]; is && other != p {
						t.Errorf("%v and %v have the same sector", p, other)
					}
					owner[string(b)] = p
				}
			}
		}
	}
}
