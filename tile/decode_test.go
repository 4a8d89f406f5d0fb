package tile_test

import (
	"bytes"
	"math"
	"slices"
	"testing"

	"quadrat/api"
)

func TestDecodeAnswersTheTile(t *testing.T) {
	for sectors := 1; sectors <= 64; sectors++ {
		for _, n := range []int{0, 1, most(sectors) - 1, most(sectors)} {
			one := api.Tile{File: math.MaxInt64, No: 4095, Kind: api.KindNum, Elems: numbers(n)}
			same(t, "numbers", decoded(t, laid(one, sectors)), one)
			one = api.Tile{File: 1, No: 0, Kind: api.KindChar, Elems: make([]int64, n)}
			same(t, "characters of 0", decoded(t, laid(one, sectors)), one)
		}
	}
}

func TestDecodeOfBytesThatFillNoSectors(t *testing.T) {
	refused(t, "nil", nil)
	refused(t, "no bytes", []byte{})
	refused(t, "128 zeros", make([]byte, 128))
	one := api.Tile{File: 1, No: 0, Kind: api.KindNum}
	for size := 24; size <= 66*128; size++ { // each of them with the right sum
		if size%128 != 0 || size > 64*128 {
			refused(t, "a size", partsOf(one).bytes(size))
		}
	}
	for size := range 128 {
		refused(t, "zeros", make([]byte, size))
		refused(t, "a tile's first bytes", laid(one, 1)[:size])
		if size >= 4 {
			refused(t, "zeros and their sum", summed(make([]byte, size)))
		}
	}
	for _, sectors := range []int{65, 66, 128, 256, 1 << 16} {
		refused(t, "too many sectors", laid(one, sectors))
	}
}

func TestDecodeOfAByteMoreOrFewer(t *testing.T) {
	for _, sectors := range []int{1, 2, 63, 64} {
		one := api.Tile{File: 1, No: 0, Kind: api.KindNum, Elems: numbers(3)}
		b := laid(one, sectors)
		refused(t, "a byte fewer", b[:len(b)-1])
		refused(t, "the first byte missing", b[1:])
		for _, x := range []byte{0, 1, 0x51, 255} {
			refused(t, "a byte more", append(bytes.Clone(b), x))
			refused(t, "a byte ahead", append([]byte{x}, b...))
		}
		refused(t, "a byte fewer, and its sum", partsOf(one).bytes(len(b)-1))
		refused(t, "a byte more, and its sum", partsOf(one).bytes(len(b)+1))
		refused(t, "a sector more", append(bytes.Clone(b), make([]byte, 128)...))
		refused(t, "twice", append(bytes.Clone(b), b...))
	}
}

// unsettled fails unless bytes, whose sum is right, are refused.
func unsettled(t *testing.T, what string, b []byte) {
	t.Helper()
	sound(t, what, b, true)
	refused(t, what, b)
}

func TestDecodeOfAnotherMark(t *testing.T) {
	for i := range 3 {
		for x := range 256 {
			p := partsOf(plain())
			if p.mark[i] != byte(x) {
				p.mark[i] = byte(x)
				unsettled(t, "a mark", p.bytes(128))
			}
		}
	}
}

func TestDecodeOfEachKind(t *testing.T) {
	for x := range 256 {
		p := partsOf(plain())
		p.kind = byte(x)
		if x != 1 && x != 2 {
			unsettled(t, "a kind", p.bytes(128))
			continue
		}
		asked := plain()
		asked.Kind = x
		same(t, "a kind", decoded(t, p.bytes(128)), asked)
	}
}

func TestDecodeOfEachFile(t *testing.T) {
	p, asked := partsOf(plain()), plain()
	for _, file := range []uint64{0, 1 << 63, 1<<63 + 7, math.MaxUint64, math.MaxUint64 - 1, 0xFFFFFFFF00000007} {
		p.file = file
		unsettled(t, "a file", p.bytes(128))
	}
	for _, file := range []uint64{1, 2, 1 << 32, 1<<63 - 1} {
		p.file, asked.File = file, int64(file)
		same(t, "a file", decoded(t, p.bytes(128)), asked)
	}
}

func TestDecodeOfEachNo(t *testing.T) {
	p, asked := partsOf(plain()), plain()
	for _, no := range []uint32{4096, 4097, 1 << 16, 1 << 24, 1<<31 - 1, 1 << 31, 1<<31 + 3, math.MaxUint32} {
		p.no = no
		unsettled(t, "a number", p.bytes(128))
	}
	for _, no := range []uint32{0, 1, 256, 4095} {
		p.no, asked.No = no, int(no)
		same(t, "a number", decoded(t, p.bytes(128)), asked)
	}
}

func TestDecodeOfOtherElements(t *testing.T) {
	for _, x := range []int64{-1, 0x110000, 1 << 32, 1<<32 + 97, math.MaxInt64, math.MinInt64} {
		for at := range 13 {
			one := api.Tile{File: 4, No: 2, Kind: api.KindChar, Elems: slices.Repeat([]int64{97}, 13)}
			one.Elems[at] = x
			unsettled(t, "no character", laid(one, 1))
			one.Kind = api.KindNum
			same(t, "a number", decoded(t, laid(one, 1)), one)
		}
	}
}

// With a number of elements that reaches too far, or not far enough, the bytes are no tile's; what is zero may be an element as well as not.
func TestDecodeOfAnotherNumberOfElements(t *testing.T) {
	for _, sectors := range []int{1, 2, 64} {
		full := most(sectors)
		for _, n := range []int{0, 1, 5, full - 1, full} {
			one := api.Tile{File: 1, No: 0, Kind: api.KindNum, Elems: numbers(n)}
			p := partsOf(one)
			for _, count := range []int{full + 1, full + 2, full + 16, 4096, 1 << 16, 1<<31 - 1, 1 << 31, 1<<31 + n, 1<<32 - 1, 1<<32 - 13} {
				p.count = uint32(count)
				unsettled(t, "beyond the capacity", p.bytes(128*sectors))
			}
			for count := n - 1; count >= 0; count -= sectors {
				p.count = uint32(count)
				unsettled(t, "an element that is left", p.bytes(128*sectors))
			}
			for count := full; count >= n; count -= sectors {
				p.count = uint32(count)
				asked := one
				asked.Elems = append(numbers(n), make([]int64, count-n)...)
				same(t, "elements of 0", decoded(t, p.bytes(128*sectors)), asked)
			}
		}
	}
}

func TestDecodeOfBytesBehindTheElements(t *testing.T) {
	for _, sectors := range []int{1, 3} {
		for _, n := range []int{0, 1, 12, 13} {
			b := laid(api.Tile{File: 1, No: 0, Kind: api.KindNum, Elems: numbers(n)}, sectors)
			for at := 20 + 8*n; at < len(b)-4; at++ {
				for _, x := range []byte{1, 128, 255} {
					other := bytes.Clone(b)
					other[at] = x
					unsettled(t, "a byte that is not 0", summed(other))
				}
			}
		}
	}
}

func TestDecodeOfAWrongSum(t *testing.T) {
	for _, sectors := range []int{1, 2, 64} {
		b := laid(api.Tile{File: 1, No: 0, Kind: api.KindNum, Elems: numbers(most(sectors))}, sectors)
		for bit := range 32 {
			other := bytes.Clone(b)
			other[len(b)-4+bit/8] ^= 1 << (bit % 8)
			sound(t, "a bit of the sum", other, false)
			refused(t, "a bit of the sum", other)
		}
		slices.Reverse(b[len(b)-4:])
		sound(t, "the sum's bytes the wrong way round", b, false)
		refused(t, "the sum's bytes the wrong way round", b)
		clear(b[len(b)-4:])
		refused(t, "no sum", b)
	}
}

func TestDecodeOfATurnedBit(t *testing.T) {
	b := laid(plain(), 2)
	for bit := range 8 * len(b) {
		other := bytes.Clone(b)
		other[bit/8] ^= 1 << (bit % 8)
		sound(t, "a turned bit", other, false)
		refused(t, "a turned bit", other)
	}
}

func TestSound(t *testing.T) {
	r := noise(3)
	for size := 4; size <= 66*128; size++ {
		fills := size%128 == 0 && size <= 64*128
		if !fills && size%128 > 2 && size%128 < 126 && size > 300 {
			continue
		}
		b := make([]byte, size)
		sound(t, "zeros", b, false) // of no size that a tile has is their sum 0
		sound(t, "zeros and their sum", summed(b), fills)
		for i := range b {
			b[i] = byte(r.next())
		}
		b = summed(b)
		sound(t, "any bytes and their sum", b, fills)
		b[r.below(size)] ^= 1 << r.below(8)
		sound(t, "any bytes, a bit of them turned", b, false)
	}
	for size := range 4 {
		sound(t, "hardly any bytes", make([]byte, size), false)
	}
	sound(t, "nil", nil, false)
	sound(t, "very many sectors", summed(make([]byte, 1<<16*128)), false)
}

// What is sound need be no tile.
func TestSoundBytesOfNoTile(t *testing.T) {
	unsettled(t, "zeros and their sum", summed(make([]byte, 128)))
	unsettled(t, "zeros and their sum", summed(make([]byte, 64*128)))
	unsettled(t, "any bytes and their sum", summed(bytes.Repeat([]byte("quadrat!"), 16)))
}
