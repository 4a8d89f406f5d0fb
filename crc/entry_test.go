package crc_test

import (
	"hash/crc32"
	"testing"

	"quadrat/crc"
)

func TestEntryOfEachByte(t *testing.T) {
	for x := range 256 {
		b := byte(x)
		same(t, "Entry", crc.Entry(b), through(0, []byte{b}))
		same(t, "Entry, held against the library's", crc.Entry(b), crc32.IEEETable[b])
	}
}

func TestEntryOfKnownBytes(t *testing.T) {
	for _, c := range []struct {
		b   byte
		has uint32
	}{
		{0, 0},
		{1, 0x77073096},
		{2, 0xEE0E612C},
		{128, polynomial},
		{255, 0x2D02EF8D},
	} {
		same(t, "Entry", crc.Entry(c.b), c.has)
		same(t, "Entry, asked again", crc.Entry(c.b), c.has)
	}
}

// A sum can be worked out by the table as well: both ways must tell the same.
func TestEntriesMakeUpASum(t *testing.T) {
	for n := range 100 {
		b := noise(uint32(n), n)
		register := uint32(0xFFFFFFFF)
		for _, x := range b {
			register = register>>8 ^ crc.Entry(byte(register)^x)
		}
		same(t, "by the table", ^register, crc.Of(b))
	}
}
