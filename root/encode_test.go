package root_test

import (
	"math"
	"testing"

	"quadrat/api"
	"quadrat/root"
)

// The terms' own layout, byte by byte.
func TestSectorOfARoot(t *testing.T) {
	b, e := root.Encode(api.Root{N: 0x0102030405060708, Len: 0x0A0B, Sum: 0xC1C2C3C4})
	want(t, "Encode", e, api.OK)
	if len(b) != 128 {
		t.Fatalf("%d bytes", len(b))
	}
	holds(t, "what is ahead of the zeros", b[:20], []byte{
		0x51, 0x52, 0x01, 0x00,
		1, 2, 3, 4, 5, 6, 7, 8,
		0, 0, 0x0A, 0x0B,
		0xC1, 0xC2, 0xC3, 0xC4,
	})
	holds(t, "the zeros", b[20:116], make([]byte, 96))
	holds(t, "the checksum", b[116:120], []byte{0xFF, 0xBA, 0x19, 0x61})
	holds(t, "the number again", b[120:], []byte{1, 2, 3, 4, 5, 6, 7, 8})
}

func TestNumbers(t *testing.T) {
	for _, n := range numbers() {
		accepted(t, "N", api.Root{N: n})
		accepted(t, "N", of(n))
		accepted(t, "N", api.Root{N: n, Len: 3072, Sum: math.MaxUint32})
	}
	barred(t, "the zero root", api.Root{})
	barred(t, "N of 0", api.Root{N: 0, Len: 5, Sum: 6})
	barred(t, "N of 0", api.Root{N: 0, Len: 3072, Sum: math.MaxUint32})
}

func TestLengths(t *testing.T) {
	for _, n := range []uint64{1, 2, math.MaxUint64} {
		for length := 0; length <= 3072; length++ {
			accepted(t, "Len", api.Root{N: n, Len: length, Sum: 9})
		}
		for _, length := range []int{-1, -2, -3072, 3073, 3074, 4096, 65535, 65536, 1<<31 - 1, 1 << 31, math.MinInt32, 1<<32 - 1, 1 << 32, 1<<32 + 5, -1 << 32, math.MaxInt, math.MinInt, math.MinInt + 5} {
			r := api.Root{N: n, Len: length, Sum: 9}
			b, e := root.Encode(r)
			want(t, "Len: Encode", e, api.ErrRoot)
			if len(b) > 0 {
				t.Errorf("Len %d: Encode answers % X beside its error", length, b)
			}
			want(t, "Len: Save", root.Save(made(t, 2), r), api.ErrRoot)
		}
	}
	for _, length := range []int{-1, 3073} {
		barred(t, "Len", api.Root{N: 1, Len: length, Sum: 0})
		barred(t, "Len", api.Root{N: 2, Len: length, Sum: 1})
		barred(t, "Len, and N", api.Root{N: 0, Len: length, Sum: 1})
	}
}

func TestSums(t *testing.T) {
	for _, sum := range []uint32{0, 1, 255, 256, 1 << 16, 1<<31 - 1, 1 << 31, math.MaxUint32 - 1, math.MaxUint32} {
		accepted(t, "Sum", api.Root{N: 1, Len: 10, Sum: sum})
		accepted(t, "Sum", api.Root{N: math.MaxUint64, Len: 0, Sum: sum})
	}
}

func TestOtherRootsHaveOtherSectors(t *testing.T) {
	owner := make(map[string]api.Root)
	for _, n := range []uint64{1, 2, 256, 1 << 32, 1 << 63} {
		for _, length := range []int{0, 1, 256, 3072} {
			for _, sum := range []uint32{0, 1, 256, 1 << 31} {
				r := api.Root{N: n, Len: length, Sum: sum}
				b, e := root.Encode(r)
				want(t, "Encode", e, api.OK)
				if other, is := owner[string(b)]; is {
					t.Errorf("%v and %v have the same sector", r, other)
				}
				owner[string(b)] = r
			}
		}
	}
}

func TestArea(t *testing.T) {
	for _, n := range append(numbers(), 0, 100, 101) {
		asked := 2
		if n&1 == 1 {
			asked = 26
		}
		if got := root.Area(n); got != asked {
			t.Errorf("Area(%d) is %d, want %d", n, got, asked)
		}
	}
}
