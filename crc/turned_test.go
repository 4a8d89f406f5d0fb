package crc_test

import (
	"bytes"
	"slices"
	"testing"

	"quadrat/crc"
)

// turned is sealed bytes with some bits inverted: the pattern's lowest bit stands for the bit at that place. Places are counted as the chapter counts them; bits behind the last place are left out.
func turned(sealed []byte, at int, pattern uint64) []byte {
	b := bytes.Clone(sealed)
	slices.Reverse(b[len(b)-4:])
	for ; pattern > 0 && at < 8*len(b); at, pattern = at+1, pattern>>1 {
		b[at/8] ^= byte(pattern&1) << (at % 8)
	}
	slices.Reverse(b[len(b)-4:])
	return b
}

// patterns are bits within 32, the first of them among them: one, two, all up to some place, and others.
func patterns() []uint64 {
	l := []uint64{1, polynomial | 1, polynomial >> 5}
	for i := 1; i < 32; i++ {
		l = append(l, 1|1<<i, 1<<(i+1)-1)
	}
	for i, b := 0, noise(11, 400); i < len(b); i += 4 {
		l = append(l, 1|uint64(b[i])|uint64(b[i+1])<<8|uint64(b[i+2])<<16|uint64(b[i+3])<<24)
	}
	return l
}

func TestTurnedBitsAreNoticed(t *testing.T) {
	for _, n := range []int{0, 1, 2, 3, 4, 5, 12, 124} { // of the shortest, all places are in the sum; of the others, in the bytes, in the sum, and across both
		sealed := crc.Seal(noise(uint32(n), n))
		for at := range 8 * len(sealed) {
			for _, pattern := range patterns() {
				refused(t, "turned bits", turned(sealed, at, pattern))
			}
		}
	}
}

func TestEveryTwoBitsAcrossTheBoundary(t *testing.T) {
	sealed := crc.Seal([]byte("quadrat"))
	boundary := 8 * len("quadrat")
	for at := boundary - 31; at < boundary; at++ {
		for far := boundary - at; far < 32; far++ {
			refused(t, "a bit of the bytes, one of the sum", turned(sealed, at, 1|1<<far))
		}
	}
}

// 33 bits can be turned unnoticed, if they are just the polynomial's: if the places were counted in another way, these would be others.
func TestPlacesAreCountedAsTheChapterSays(t *testing.T) {
	b := noise(21, 9)
	sealed := crc.Seal(b)
	for at := range 8*len(sealed) - 32 {
		other := turned(sealed, at, polynomial<<1|1)
		inside := opened(t, other)
		holds(t, "Open", inside, other[:len(b)])
		if bytes.Equal(other, sealed) {
			t.Error("nothing was turned")
		}
	}
}
