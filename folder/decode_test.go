package folder_test

import (
	"bytes"
	"testing"

	"quadrat/api"
	"quadrat/folder"
)

// Where fields stand in an encoding.
const (
	fusedAt = 18
	countAt = 44
)

func TestDecodeOfBytesThatAreNoEncoding(t *testing.T) {
	refused(t, "nil", nil)
	refused(t, "no bytes", []byte{})
	for _, n := range []int{1, 4, 44, 45, 46, 128, 3072, 1 << 20} {
		refused(t, "zeros", make([]byte, n))
		refused(t, "bits", bytes.Repeat([]byte{255}, n))
	}
	refused(t, "the mark alone", []byte{0x51, 0x46, 1, 0})
}

func TestDecodeOfTooFewBytesAndTooMany(t *testing.T) {
	for _, f := range []api.Folder{bare(1), plain(), named("abcdefghijkl"), filled(40)} {
		b := laid(f)
		for n := range b {
			refused(t, "less its last bytes", b[:n])
			refused(t, "less its first bytes", b[len(b)-n:])
		}
		for _, x := range []byte{0, 1, 0x51, 255} {
			refused(t, "a byte more", append(bytes.Clone(b), x))
			refused(t, "a byte ahead", append([]byte{x}, b...))
		}
		refused(t, "twice", append(bytes.Clone(b), b...))
		if len(b)%128 != 0 {
			refused(t, "with the zeros of its sectors", padded(b))
		}
	}
}

func TestDecodeOfAnotherMark(t *testing.T) {
	for _, f := range []api.Folder{bare(1), plain()} {
		for i := range 4 {
			for x := range 256 {
				b := laid(f)
				if b[i] != byte(x) {
					b[i] = byte(x)
					refused(t, "a mark", b)
				}
			}
		}
	}
}

func TestDecodeOfFused(t *testing.T) {
	for _, f := range []api.Folder{bare(1), plain()} {
		b := laid(f)
		for x := range 256 {
			b[fusedAt] = byte(x)
			if x > 1 {
				refused(t, "Fused", b)
				continue
			}
			g, e := folder.Decode(b)
			want(t, "Fused: Decode", e, api.OK)
			f.Set.Fused = x == 1
			same(t, "Fused", g, f)
		}
	}
}

// A number of entries, of axes or of a name's bytes that is another one makes the bytes too few or too many.
func TestDecodeOfOtherCounts(t *testing.T) {
	for _, f := range []api.Folder{bare(1), plain(), filled(40), filled(39)} {
		b := laid(f)
		for x := range 256 {
			if x != len(f.Entries) {
				b[countAt] = byte(x)
				refused(t, "a number of entries", b)
			}
		}
	}
	b := laid(named("abc"))
	for x := range 256 {
		if x != 3 {
			b[countAt+2] = byte(x)
			refused(t, "a length of a name", b)
		}
	}
	b[countAt+1], b[countAt+2] = 1, 3
	refused(t, "a great length of a name", b)
	b = laid(named("abc"))
	for x := 1; x < 256; x++ {
		b[countAt+15] = byte(x)
		refused(t, "a number of axes", b)
	}
}

// ofFolder fails unless Decode refuses bytes, or answers a valid folder that has just these, and it answers whether it did.
func ofFolder(t *testing.T, what string, b []byte) bool {
	t.Helper()
	f, e := folder.Decode(b)
	if e != api.OK {
		refused(t, what, b)
		return false
	}
	if !valid(f) {
		t.Errorf("%s: % X are those of %v, which is not valid", what, b, f)
	}
	holds(t, what, laid(f), b)
	accepted(t, what, f)
	return true
}

func TestDecodeOfATurnedByte(t *testing.T) {
	for _, f := range []api.Folder{bare(1), plain(), named("abcdefghijkl"), of(7), filled(12)} {
		b := laid(f)
		taken, left := 0, 0
		for at := range b {
			for by := 1; by < 256; by++ {
				b[at] ^= byte(by)
				if ofFolder(t, "a turned byte", b) {
					taken++
				} else {
					left++
				}
				b[at] ^= byte(by)
			}
		}
		if taken == 0 || left == 0 {
			t.Errorf("%d were decoded, %d refused", taken, left)
		}
	}
}

// Whatever bytes are decoded, they are the encoding of what comes out.
func TestDecodedBytesAreTheEncoding(t *testing.T) {
	r := noise(2)
	taken, left := 0, 0
	for range 20_000 {
		b := laid(r.folder())
		for range 1 + r.below(3) {
			b[r.below(len(b))] ^= byte(1 << r.below(8))
		}
		if ofFolder(t, "some bytes", b) {
			taken++
		} else {
			left++
		}
	}
	if taken < 1000 || left < 1000 {
		t.Errorf("%d were decoded, %d refused", taken, left)
	}
}

func TestEncodingsAreReadBack(t *testing.T) {
	r := noise(1)
	for range 3000 {
		f := r.folder()
		b, e := folder.Encode(f)
		want(t, "Encode", e, api.OK)
		g, e := folder.Decode(b)
		want(t, "Decode", e, api.OK)
		same(t, "read back", g, f)
		again, e := folder.Encode(g)
		want(t, "Encode again", e, api.OK)
		holds(t, "encoded again", again, b)
	}
}
