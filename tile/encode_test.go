package tile_test

import (
	"testing"

	"quadrat/api"
)

// The chapter's own example, byte by byte.
func TestEncodeOfACharacter(t *testing.T) {
	b := encoded(t, api.Tile{File: 1, No: 2, Kind: api.KindChar, Elems: []int64{97}}, 1)
	if len(b) != 128 {
		t.Fatalf("%d bytes", len(b))
	}
	holds(t, "the first 28 bytes", b[:28], []byte{
		0x51, 0x54, 0x01, 0x02,
		0, 0, 0, 0, 0, 0, 0, 0x01,
		0, 0, 0, 0x02,
		0, 0, 0, 0x01,
		0, 0, 0, 0, 0, 0, 0, 0x61,
	})
	holds(t, "the zero bytes", b[28:124], make([]byte, 96))
	holds(t, "the sum", b[124:], summed(b)[124:])
}

func TestEncodeHasTheHighestByteFirst(t *testing.T) {
	b := encoded(t, api.Tile{File: 0x0102030405060708, No: 0x0A0B, Kind: api.KindNum, Elems: make([]int64, 300)}, 20)
	holds(t, "what is ahead of the elements", b[:20], []byte{
		0x51, 0x54, 0x01, 0x01,
		1, 2, 3, 4, 5, 6, 7, 8,
		0, 0, 0x0A, 0x0B,
		0, 0, 0x01, 0x2C,
	})
	b = encoded(t, api.Tile{File: 1, No: 0, Kind: api.KindNum, Elems: []int64{-2, 0x1122334455667788}}, 1)
	holds(t, "two elements", b[20:36], []byte{
		0xFF, 0xFF, 0xFF, 0xFF, 0xFF, 0xFF, 0xFF, 0xFE,
		0x11, 0x22, 0x33, 0x44, 0x55, 0x66, 0x77, 0x88,
	})
}

func TestEncodeFillsItsSectors(t *testing.T) {
	for sectors := 1; sectors <= 64; sectors++ {
		for _, n := range []int{0, 1, most(sectors)} {
			one := api.Tile{File: 5, No: 6, Kind: api.KindNum, Elems: numbers(n)}
			b := encoded(t, one, sectors)
			if len(b) != 128*sectors {
				t.Fatalf("%d bytes in %d sectors", len(b), sectors)
			}
			holds(t, "all of it", b, laid(one, sectors))
			holds(t, "the zero bytes", b[20+8*n:len(b)-4], make([]byte, len(b)-24-8*n))
		}
	}
}
