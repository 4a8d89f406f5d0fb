package journal_test

import (
	"bytes"
	"encoding/binary"
	"hash/crc32"
	"testing"
)

// samples are sectors of records, one for each length of a payload that the limits make an edge, with numbers that leave no byte of them 0, and others.
func samples() [][]byte {
	var l [][]byte
	for _, size := range []int{0, 1, 2, 32, 63, 64} {
		l = append(l, laid(0x0102030405060708, 0xF1F2F3F4F5F6F7F8, of(3, size)), laid(7, 1, of(1, size)), laid(0, 256, make([]byte, size)))
	}
	return l
}

func TestDecodeOfBytesThatAreNoSector(t *testing.T) {
	refused(t, "nil", nil)
	refused(t, "no bytes", []byte{})
	for _, b := range samples() {
		for size := range b {
			refused(t, "too few bytes", b[:size])
			refused(t, "too few bytes", b[len(b)-size:])
		}
		for _, x := range []byte{0, 1, 0x51, 255} {
			refused(t, "a byte more", append(bytes.Clone(b), x))
			refused(t, "a byte ahead", append([]byte{x}, b...))
		}
		refused(t, "twice", append(bytes.Clone(b), b...))
		refused(t, "two sectors", append(bytes.Clone(b), make([]byte, 128)...))
	}
	for _, size := range []int{1, 127, 128, 129, 256, 1 << 20} {
		refused(t, "zeros", make([]byte, size))
		refused(t, "bits", bytes.Repeat([]byte{255}, size))
	}
}

// A sector with fewer or more zeros, the checksum of which is right where it then stands, is none.
func TestDecodeOfMoreOrFewerZeros(t *testing.T) {
	whole := laid(7, 3, []byte("abcd"))
	for size := 24; size < 200; size++ {
		if size == 108 {
			continue
		}
		b := append(bytes.Clone(whole[:24]), make([]byte, size-24)...)
		b = binary.BigEndian.AppendUint32(b, crc32.ChecksumIEEE(b))
		refused(t, "another size", append(b, whole[112:]...))
	}
}

// Wherever a bit of a sector is turned, it is none any more; so is it where a byte is any other one.
func TestDecodeOfTurnedBytes(t *testing.T) {
	for _, b := range samples() {
		for at := range b {
			for bit := range 8 {
				other := bytes.Clone(b)
				other[at] ^= 1 << bit
				refused(t, "a bit", other)
			}
		}
	}
	b := laid(0x0102030405060708, 0xF1F2F3F4F5F6F7F8, []byte("abc"))
	for at := range b {
		for x := 1; x < 256; x++ {
			other := bytes.Clone(b)
			other[at] ^= byte(x)
			refused(t, "a byte", other)
		}
	}
}

func TestDecodeOfAnotherMark(t *testing.T) {
	for i := range 3 {
		for x := range 256 {
			p := partsOf(7, 1, []byte("ab"))
			if p.mark[i] != byte(x) {
				p.mark[i] = byte(x)
				refused(t, "a mark", p.bytes())
			}
		}
	}
}

// A length is right if it reaches the last byte that is not 0, and no further than a payload may: the zeros that it takes in are the payload's.
func TestDecodeOfAnotherLength(t *testing.T) {
	for _, size := range []int{0, 1, 5, 63, 64} {
		payload := of(2, size)
		for length := range 256 {
			p := partsOf(7, 4, payload)
			p.length = byte(length)
			if length < size || length > 64 {
				refused(t, "a length", p.bytes())
			} else {
				decodes(t, "a length", p.bytes(), 7, 4, p.rest[:length])
			}
		}
	}
	p := partsOf(7, 4, nil)
	for at := range p.rest {
		p.rest[at] = byte(1 + at)
	}
	for length := range 256 {
		p.length = byte(length)
		refused(t, "no zeros behind it", p.bytes())
	}
}

func TestDecodeOfBytesBehindThePayload(t *testing.T) {
	for _, size := range []int{0, 1, 2, 62, 63, 64} {
		for at := size; at < 88; at++ {
			for _, x := range []byte{1, 2, 0x80, 0xFF} {
				p := partsOf(7, 4, of(5, size))
				p.rest[at] = x
				refused(t, "a byte that is not 0", p.bytes())
			}
		}
	}
}

func TestDecodeOfTwoEpochsOrNumbers(t *testing.T) {
	for _, one := range append(greats(), 0) {
		for _, two := range append(greats(), 0) {
			if one == two {
				continue
			}
			p := partsOf(one, 3, []byte("ab"))
			p.epochAgain = two
			refused(t, "two epochs", p.bytes())
			p = partsOf(3, one, []byte("ab"))
			p.numberAgain = two
			refused(t, "two numbers", p.bytes())
			p = partsOf(one, two, []byte("ab"))
			p.epochAgain, p.numberAgain = two, one
			refused(t, "both the other way round", p.bytes())
		}
	}
	for bit := range 64 {
		for _, turn := range []func(p *parts){
			func(p *parts) { p.epoch ^= 1 << bit },
			func(p *parts) { p.number ^= 1 << bit },
			func(p *parts) { p.epochAgain ^= 1 << bit },
			func(p *parts) { p.numberAgain ^= 1 << bit },
		} {
			p := partsOf(5, 6, []byte("ab"))
			turn(&p)
			refused(t, "a bit of a copy", p.bytes())
		}
	}
}

// A sum counts only where it stands, and in its own order.
func TestDecodeOfAnotherSum(t *testing.T) {
	b := laid(5, 6, []byte("ab"))
	other := bytes.Clone(b)
	for i := range 4 {
		other[108+i] = b[111-i]
	}
	refused(t, "the sum backwards", other)
	other = bytes.Clone(b)
	clear(other[108:112])
	refused(t, "no sum", other)
	binary.BigEndian.PutUint32(other[108:], crc32.ChecksumIEEE(b[:107]))
	refused(t, "the sum of 107 bytes", other)
	binary.BigEndian.PutUint32(other[108:], crc32.ChecksumIEEE(append(bytes.Clone(b[:108]), b[112:]...)))
	refused(t, "the sum of the tail, too", other)
	binary.BigEndian.PutUint32(other[108:], ^crc32.ChecksumIEEE(b[:108]))
	refused(t, "the sum inverted", other)
	binary.BigEndian.PutUint32(other[108:], crc32.ChecksumIEEE(b[:108]))
	decodes(t, "the sum", other, 5, 6, []byte("ab"))
}

// Bytes that are near to a record's sector are decoded just if they are that of the record they tell of.
func TestDecodeOfAnyBytes(t *testing.T) {
	r := noise(2)
	many, few := 0, 0
	for range 20_000 {
		number := 1 + r.next()>>r.below(64)
		b := laid(r.next()>>r.below(64), number, of(number, r.below(65)))
		b[r.below(108)] = byte(r.below(256) >> r.below(8))
		if r.below(2) == 0 {
			b[3] = byte(r.below(70))
		}
		binary.BigEndian.PutUint32(b[108:], crc32.ChecksumIEEE(b[:108]))
		if r.below(4) > 0 {
			copy(b[112:], b[4:20])
		}
		epoch, number := binary.BigEndian.Uint64(b[4:]), binary.BigEndian.Uint64(b[12:])
		payload := b[20 : 20+min(int(b[3]), 64)]
		if number > 0 && b[3] <= 64 && bytes.Equal(laid(epoch, number, payload), b) {
			many++
			accepted(t, "any bytes", epoch, number, payload)
			decodes(t, "any bytes", b, epoch, number, payload)
		} else {
			few++
			refused(t, "any bytes", b)
		}
	}
	if many < 1000 || few < 1000 {
		t.Errorf("%d were decoded, %d refused", many, few)
	}
}
