package crc_test

import (
	"bytes"
	"hash/crc32"
	"slices"
	"strings"
	"testing"

	"quadrat/crc"
)

func TestOfKnownSums(t *testing.T) {
	for _, c := range []struct {
		s   string
		sum uint32
	}{
		{"", 0},
		{"\x00", 0xD202EF8D},
		{"\xFF", 0xFF000000},
		{"a", 0xE8B7BE43},
		{"abc", 0x352441C2},
		{"\x00\x00\x00\x00", 0x2144DF1C},
		{"\xFF\xFF\xFF\xFF", 0xFFFFFFFF},
		{"123456789", 0xCBF43926},
		{"The quick brown fox jumps over the lazy dog", 0x414FA339},
		{strings.Repeat("\x00", 32), 0x190A55AD},
		{strings.Repeat("\xFF", 32), 0xFF6CAB0B},
	} {
		same(t, "Of", crc.Of([]byte(c.s)), c.sum)
	}
	same(t, "Of nil", crc.Of(nil), 0)
}

func TestOfFollowsTheTerms(t *testing.T) {
	for x := range 256 {
		one := []byte{byte(x)}
		same(t, "Of one byte", crc.Of(one), plain(one))
		three := []byte{byte(x), 0, byte(x)}
		same(t, "Of three bytes", crc.Of(three), plain(three))
	}
	for n := range 300 {
		b := noise(uint32(n), n)
		same(t, "Of", crc.Of(b), plain(b))
	}
	b := noise(5, 1_000_000)
	same(t, "Of many bytes", crc.Of(b), crc32.ChecksumIEEE(b))
}

func TestMoreAtEachPlace(t *testing.T) {
	b := noise(1, 100)
	for i := range len(b) + 1 {
		sum := crc.More(crc.Of(b[:i]), b[i:])
		same(t, "More behind some", sum, plain(b))
	}
	sum := crc.Of(nil)
	for i := range b {
		sum = crc.More(sum, b[i:i+1])
		same(t, "More, byte by byte", sum, plain(b[:i+1]))
	}
	same(t, "the example", crc.More(crc.Of([]byte("1234")), []byte("56789")), 0xCBF43926)
}

func TestMoreOfEverySum(t *testing.T) {
	rare := 0
	for _, sum := range odd() {
		if !isOfShort(sum) {
			rare++
		}
		same(t, "More of nothing", crc.More(sum, nil), sum)
		same(t, "More of no bytes", crc.More(sum, []byte{}), sum)
		for _, ahead := range [][]byte{nil, []byte("a"), noise(sum, 50)} { // whichever bytes have the sum, what follows is the same
			a := forged(ahead, sum)
			same(t, "Of forged bytes", crc.Of(a), sum)
			for _, b := range [][]byte{{0}, {255}, []byte("xyz"), noise(9, 40)} {
				same(t, "More", crc.More(sum, b), plain(slices.Concat(a, b)))
			}
		}
	}
	if rare < 20 {
		t.Errorf("only %d of the sums are those of no short input", rare)
	}
}

func TestSumsOnlyReadTheirArguments(t *testing.T) {
	b := noise(3, 64)
	before := bytes.Clone(b)
	first := crc.Of(b)
	crc.More(77, b[:20])
	holds(t, "the argument", b, before)
	b[5]++
	same(t, "Of other bytes", crc.Of(b), plain(b))
	b[5]--
	same(t, "Of the bytes as they were", crc.Of(b), first)
}
