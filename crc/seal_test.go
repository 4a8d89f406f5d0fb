package crc_test

import (
	"bytes"
	"slices"
	"testing"

	"quadrat/api"
	"quadrat/crc"
)

// refused fails unless Open answers ErrSum, and nothing beside it.
func refused(t *testing.T, what string, b []byte) {
	t.Helper()
	inside, e := crc.Open(b)
	if e != api.ErrSum || len(inside) != 0 {
		t.Errorf("Open of %s, % X: % X, error %d, want ErrSum", what, b, inside, e)
	}
}

// opened is what Open answers of bytes that are sealed.
func opened(t *testing.T, b []byte) []byte {
	t.Helper()
	inside, e := crc.Open(b)
	want(t, "Open", e, api.OK)
	return inside
}

// bigEnd is a sum's bytes, the highest one first.
func bigEnd(sum uint32) []byte {
	return []byte{byte(sum >> 24), byte(sum >> 16), byte(sum >> 8), byte(sum)}
}

func TestSeal(t *testing.T) {
	for _, c := range []struct{ b, sealed string }{
		{"", "\x00\x00\x00\x00"},
		{"\x00", "\x00\xD2\x02\xEF\x8D"},
		{"a", "a\xE8\xB7\xBE\x43"},
		{"123456789", "123456789\xCB\xF4\x39\x26"},
	} {
		holds(t, "Seal", crc.Seal([]byte(c.b)), []byte(c.sealed))
	}
	holds(t, "Seal of nil", crc.Seal(nil), make([]byte, 4))
	for n := range 200 {
		b := noise(uint32(n), n)
		holds(t, "Seal", crc.Seal(b), slices.Concat(b, bigEnd(plain(b))))
	}
}

func TestOpenAnswersWhatWasSealed(t *testing.T) {
	for _, n := range []int{0, 1, 2, 3, 4, 5, 8, 124, 1000, 100_000} {
		b := noise(uint32(n)+1, n)
		holds(t, "Open of Seal", opened(t, crc.Seal(b)), b)
		again := crc.Seal(b)
		holds(t, "Open, sealed twice", opened(t, opened(t, crc.Seal(again))), b)
	}
	if b := opened(t, make([]byte, 4)); len(b) != 0 {
		t.Errorf("Open of four zeros: % X", b)
	}
	holds(t, "Open", opened(t, []byte("123456789\xCB\xF4\x39\x26")), []byte("123456789"))
}

func TestOpenOfBytesWithoutASum(t *testing.T) {
	refused(t, "nil", nil)
	for n := range 4 {
		refused(t, "fewer than four zeros", make([]byte, n))
		refused(t, "fewer than four bytes", noise(1, n))
		refused(t, "a sum's first bytes", crc.Seal(nil)[:n])
	}
	refused(t, "five zeros", make([]byte, 5))
	refused(t, "four bytes", []byte{0, 0, 0, 1})
	refused(t, "four bytes", []byte{1, 0, 0, 0})
	refused(t, "four bytes", []byte{255, 255, 255, 255})
}

func TestOpenOfAnotherSum(t *testing.T) {
	for n := 1; n < 40; n++ {
		b := noise(uint32(n), n)
		sum := plain(b)
		turned := bigEnd(sum)
		slices.Reverse(turned)
		refused(t, "the sum's bytes the wrong way round", slices.Concat(b, turned))
		refused(t, "the sum, inverted", slices.Concat(b, bigEnd(^sum)))
		refused(t, "no sum", b)
		refused(t, "the sum ahead", slices.Concat(bigEnd(sum), b))
		sealed := crc.Seal(b)
		refused(t, "one byte fewer", sealed[:len(sealed)-1])
		refused(t, "the first byte missing", sealed[1:])
		refused(t, "one byte more", append(bytes.Clone(sealed), 0))
		for i := range sealed {
			for _, by := range []byte{1, 128, 255} {
				other := bytes.Clone(sealed)
				other[i] += by
				refused(t, "another byte", other)
			}
		}
	}
}

func TestSealAnswersNewMemory(t *testing.T) {
	room := noise(8, 40) // behind the argument there is room for a sum, which is not Seal's
	before := bytes.Clone(room)
	b := room[:20]
	one, two := crc.Seal(b), crc.Seal(b)
	holds(t, "the argument and what is behind it", room, before)
	for i := range one {
		one[i]++
	}
	holds(t, "the argument after a change of the answer", room, before)
	holds(t, "another answer", two, slices.Concat(before[:20], bigEnd(plain(before[:20]))))
	clear(room)
	holds(t, "an answer after a change of the argument", two, slices.Concat(before[:20], bigEnd(plain(before[:20]))))
}

func TestOpenAnswersNewMemory(t *testing.T) {
	b := noise(8, 20)
	sealed := crc.Seal(b)
	before := bytes.Clone(sealed)
	one, two := opened(t, sealed), opened(t, sealed)
	_ = append(one, 1, 2, 3, 4)
	for i := range one {
		one[i]++
	}
	holds(t, "the argument after a change of the answer", sealed, before)
	holds(t, "another answer", two, b)
	clear(sealed)
	holds(t, "an answer after a change of the argument", two, b)
	bad := append(bytes.Clone(before), 7)
	asked := bytes.Clone(bad)
	refused(t, "one byte more", bad)
	holds(t, "the argument that was refused", bad, asked)
}
