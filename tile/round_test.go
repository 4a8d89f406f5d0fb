package tile_test

import (
	"bytes"
	"testing"

	"quadrat/api"
	"quadrat/tile"
)

func TestEncodingsAreReadBack(t *testing.T) {
	r := noise(1)
	for sectors := 1; sectors <= 64; sectors++ {
		for range 10 {
			one := r.tile(sectors)
			b := encoded(t, one, sectors)
			holds(t, "a tile", b, laid(one, sectors))
			got := decoded(t, b)
			same(t, "a tile", got, one)
			holds(t, "encoded again", encoded(t, got, sectors), b)
			sound(t, "a tile", b, true)
		}
	}
}

// A tile has other bytes for another number of sectors, and is the same tile all the same.
func TestATileInMoreSectors(t *testing.T) {
	one := plain()
	for sectors := 1; sectors <= 64; sectors++ {
		same(t, "more sectors", decoded(t, encoded(t, one, sectors)), one)
	}
}

// near are tiles that have hardly anything to tell one from another.
func near() []api.Tile {
	var l []api.Tile
	lists := [][]int64{nil, {0}, {0, 0}, {1}, {0, 1}, {1, 0}, {1, 1}, {1 << 8}, {1 << 16}, make([]int64, 12), make([]int64, 13)}
	for _, file := range []int64{1, 2, 256, 1 << 32} {
		for _, no := range []int{0, 1, 256} {
			for _, kind := range []int{api.KindNum, api.KindChar} {
				for _, elems := range lists {
					l = append(l, api.Tile{File: file, No: no, Kind: kind, Elems: elems})
				}
			}
		}
	}
	for _, x := range []int64{-1, 1 << 32, 1 << 56, -1 << 63} {
		l = append(l, api.Tile{File: 1, Kind: api.KindNum, Elems: []int64{x}})
	}
	return l
}

func TestOtherTilesHaveOtherBytes(t *testing.T) {
	for _, sectors := range []int{1, 2} {
		owner := make(map[string]int) // of each encoding, which tile it is of, counted from 1
		for i, one := range near() {
			b := string(encoded(t, one, sectors))
			if owner[b] != 0 {
				t.Errorf("%v and %v have the same bytes", one, near()[owner[b]-1])
			}
			owner[b] = i + 1
			empty := one
			empty.Elems = append([]int64{}, one.Elems...)
			holds(t, "the same tile", encoded(t, empty, sectors), []byte(b))
		}
	}
}

// Whatever bytes with the right sum are decoded, they are the bytes of what comes out; and what comes out is refused if it may not be.
func TestDecodedBytesAreTheEncoding(t *testing.T) {
	r := noise(2)
	many, few := 0, 0
	for range 20_000 {
		sectors := 1 + r.below(2)
		b := laid(r.tile(sectors), sectors)
		for range 1 + r.below(2) {
			at := r.below(len(b) - 4)
			if r.below(2) == 0 {
				at = r.below(20)
			}
			b[at] = byte(r.below(256) >> r.below(8))
		}
		b = summed(b)
		one, e := tile.Decode(b)
		if e == api.OK {
			many++
			want(t, "Check", tile.Check(one, sectors), api.OK)
			holds(t, "encoded again", encoded(t, one, sectors), b)
			holds(t, "encoded again", laid(one, sectors), b)
			continue
		}
		few++
		want(t, "Decode", e, api.ErrTile)
		if told := asTold(b); told.Kind > 0 && tile.Check(told, sectors) == api.OK && bytes.Equal(laid(told, sectors), b) {
			t.Errorf("% X are refused, and are those of %v", b, told)
		}
		if t.Failed() {
			break
		}
	}
	if many < 1000 || few < 1000 {
		t.Errorf("%d were decoded, %d refused", many, few)
	}
}

// asTold is the tile that bytes tell of, read without the package.
func asTold(b []byte) api.Tile {
	number := func(at, size int) uint64 {
		n := uint64(0)
		for _, x := range b[at : at+size] {
			n = n<<8 | uint64(x)
		}
		return n
	}
	one := api.Tile{Kind: int(b[3]), File: int64(number(4, 8)), No: int(number(12, 4))}
	for i := range min(int(number(16, 4)), most(len(b)/128)) {
		one.Elems = append(one.Elems, int64(number(20+8*i, 8)))
	}
	return one
}
