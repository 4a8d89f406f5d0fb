package note_test

import (
	"bytes"
	"math"
	"testing"
)

// samples are the bytes of notes of each kind, with numbers that leave few bytes 0, and others.
func samples() [][]byte {
	return payloads(begun(0), begun(0x010203), tile(0, 0, 0), tile(2, 3, 9), tile(0x0F0E0D, 0x010203, math.MaxInt64), run(0, 0, 0), run(most, most, 0x1112131415161718), commit(0), commit(most), end(0, 0), end(2, 300))
}

func TestDecodeOfBytesThatAreTooFewOrTooMany(t *testing.T) {
	refused(t, "nil", nil)
	refused(t, "no bytes", []byte{})
	for _, b := range samples() {
		for size := range b {
			refused(t, "too few bytes", b[:size])
			refused(t, "too few bytes, the last ones", b[len(b)-size:])
		}
		for x := range 256 {
			refused(t, "a byte more", append(bytes.Clone(b), byte(x)))
			refused(t, "a byte ahead", append([]byte{byte(x)}, b...))
		}
		refused(t, "twice", append(bytes.Clone(b), b...))
		refused(t, "as many as a payload may have", append(bytes.Clone(b), make([]byte, 64-17)...))
	}
	for _, size := range []int{1, 8, 9, 16, 17, 18, 64, 65, 1 << 20} {
		for _, x := range []byte{0, 1, 2, 3, 4, 5, 255} {
			refused(t, "one byte, again and again", bytes.Repeat([]byte{x}, size))
		}
	}
}

func TestDecodeOfEachKind(t *testing.T) {
	for kind := range 256 {
		p := parts{kind: byte(kind), a: 2}
		if kind >= 1 && kind <= 5 {
			decodes(t, "a kind", p.bytes(), p.note())
		} else {
			refused(t, "a kind", p.bytes())
		}
		p.b, p.n = 3, 9
		if kind == 2 || kind == 3 {
			decodes(t, "a kind beside others", p.bytes(), p.note())
		} else {
			refused(t, "a kind beside others", p.bytes())
		}
	}
}

func TestDecodeOfNumbersBeyondTheLimit(t *testing.T) {
	for kind := byte(1); kind <= 5; kind++ {
		for _, x := range []uint32{most + 1, most + 2, 2 * most, 1 << 24, 1<<31 - 1, 1 << 31, 1<<31 + 1, math.MaxUint32 - 1, math.MaxUint32} {
			refused(t, "an A", parts{kind: kind, a: x}.bytes())
			refused(t, "a B", parts{kind: kind, b: x}.bytes())
			refused(t, "both", parts{kind: kind, a: x, b: x}.bytes())
		}
		for _, n := range []uint64{1 << 63, 1<<63 + 1, math.MaxUint64 - 1, math.MaxUint64} {
			refused(t, "an N", parts{kind: kind, n: n}.bytes())
			refused(t, "an N beside others", parts{kind: kind, a: 2, b: 3, n: n}.bytes())
		}
	}
}

func TestDecodeOfNumbersThatAKindHasNot(t *testing.T) {
	for _, kind := range []byte{1, 4} {
		for _, x := range []uint32{1, 2, 255, 256, 65536, most} {
			refused(t, "a B", parts{kind: kind, b: x}.bytes())
			refused(t, "a B beside an A", parts{kind: kind, a: 3, b: x}.bytes())
		}
	}
	for _, kind := range []byte{1, 4, 5} {
		for bit := range 64 {
			refused(t, "an N", parts{kind: kind, n: 1 << bit}.bytes())
			refused(t, "an N beside an A", parts{kind: kind, a: 3, n: 1 << bit}.bytes())
		}
	}
	for bit := range 64 {
		refused(t, "an N beside a B", parts{kind: 5, a: 3, b: 4, n: 1 << bit}.bytes())
	}
}

// partsIn are what 17 bytes tell, worked out without the package.
func partsIn(b []byte) parts {
	var p parts
	p.kind = b[0]
	for i := range 4 {
		p.a, p.b = p.a<<8+uint32(b[1+i]), p.b<<8+uint32(b[5+i])
	}
	for i := range 8 {
		p.n = p.n<<8 + uint64(b[9+i])
	}
	return p
}

// judged fails unless bytes are decoded to what they tell, if that is a valid note, and refused otherwise.
func judged(t *testing.T, what string, b []byte) (valid bool) {
	t.Helper()
	p := partsIn(b)
	if p.may() {
		accepted(t, what, p.note())
		decodes(t, what, b, p.note())
	} else {
		refused(t, what, b)
		barred(t, what, p.note())
	}
	return p.may()
}

// Nothing tells whether a byte was turned: what is then decoded is what the bytes tell.
func TestDecodeOfTurnedBytes(t *testing.T) {
	for _, b := range samples() {
		for at := range b {
			for x := range 256 {
				other := bytes.Clone(b)
				other[at] = byte(x)
				judged(t, "another byte", other)
			}
		}
	}
}

func TestDecodeOfAnyBytes(t *testing.T) {
	r := noise(3)
	many, few := 0, 0
	for range 20_000 {
		p := parts{kind: byte(r.below(7)), a: uint32(r.next() >> (40 + r.below(24))), b: uint32(r.next() >> (40 + r.below(25))), n: r.next() >> r.below(65)}
		if r.below(2) == 0 {
			p.n = 0
		}
		if judged(t, "any bytes", p.bytes()) {
			many++
		} else {
			few++
		}
	}
	if many < 1000 || few < 1000 {
		t.Errorf("%d were decoded, %d refused", many, few)
	}
}
