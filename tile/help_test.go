package tile_test

import (
	"bytes"
	"encoding/binary"
	"hash/crc32"
	"slices"
	"testing"

	"quadrat/api"
	"quadrat/tile"
)

// most is as many elements as fit into so many sectors, as the chapter words it.
func most(sectors int) int { return (128*sectors - 24) / 8 }

// want fails unless an error is the one that is asked for.
func want(t *testing.T, what string, got, asked api.Errno) {
	t.Helper()
	if got != asked {
		t.Errorf("%s: error %d, want %d", what, got, asked)
	}
}

// holds fails unless two lists of bytes are the same.
func holds(t *testing.T, what string, got, asked []byte) {
	t.Helper()
	if !bytes.Equal(got, asked) {
		t.Errorf("%s: % X, want % X", what, got, asked)
	}
}

// equal says whether two tiles are the same; no elements are the same as none.
func equal(one, two api.Tile) bool {
	return one.File == two.File && one.No == two.No && one.Kind == two.Kind && slices.Equal(one.Elems, two.Elems)
}

// same fails unless two tiles are the same.
func same(t *testing.T, what string, got, asked api.Tile) {
	t.Helper()
	if !equal(got, asked) {
		t.Errorf("%s: %v, want %v", what, got, asked)
	}
}

// parts are what the bytes of a tile tell, which need not be what a tile may have.
type parts struct {
	mark      [3]byte
	kind      byte
	file      uint64
	no, count uint32
	elems     []int64
}

// partsOf are those of a tile.
func partsOf(one api.Tile) parts {
	return parts{
		mark:  [3]byte{0x51, 0x54, 0x01},
		kind:  byte(one.Kind),
		file:  uint64(one.File),
		no:    uint32(one.No),
		count: uint32(len(one.Elems)),
		elems: one.Elems,
	}
}

// bytes lays them into so many bytes, and their sum behind them.
func (p parts) bytes(size int) []byte {
	b := append(p.mark[:], p.kind)
	b = binary.BigEndian.AppendUint64(b, p.file)
	b = binary.BigEndian.AppendUint32(b, p.no)
	b = binary.BigEndian.AppendUint32(b, p.count)
	for _, x := range p.elems {
		b = binary.BigEndian.AppendUint64(b, uint64(x))
	}
	return summed(append(b, make([]byte, size-len(b))...))
}

// summed is bytes, the last four of which are made the sum of the others.
func summed(b []byte) []byte {
	inside := b[:len(b)-4]
	return binary.BigEndian.AppendUint32(bytes.Clone(inside), crc32.ChecksumIEEE(inside))
}

// laid is a tile's encoding, worked out without the package.
func laid(one api.Tile, sectors int) []byte { return partsOf(one).bytes(128 * sectors) }

// encoded is what Encode answers of a tile that is valid.
func encoded(t *testing.T, one api.Tile, sectors int) []byte {
	t.Helper()
	b, e := tile.Encode(one, sectors)
	if e != api.OK {
		t.Fatalf("Encode(%v, %d): error %d", one, sectors, e)
	}
	return b
}

// decoded is what Decode answers of bytes that are a valid tile's.
func decoded(t *testing.T, b []byte) api.Tile {
	t.Helper()
	one, e := tile.Decode(b)
	if e != api.OK {
		t.Fatalf("Decode(% X): error %d", b, e)
	}
	return one
}

// sound fails unless Sound answers this.
func sound(t *testing.T, what string, b []byte, asked bool) {
	t.Helper()
	if got := tile.Sound(b); got != asked {
		t.Errorf("%s: Sound of %d bytes is %v", what, len(b), got)
	}
}

// refused fails unless Decode answers ErrTile, and the zero tile beside it.
func refused(t *testing.T, what string, b []byte) {
	t.Helper()
	one, e := tile.Decode(b)
	if e != api.ErrTile || !equal(one, api.Tile{}) {
		t.Errorf("%s: Decode of %d bytes: error %d and %v, want ErrTile", what, len(b), e, one)
	}
}

// accepted fails unless a tile is valid for so many sectors, and its bytes are just what the chapter says, both ways.
func accepted(t *testing.T, what string, one api.Tile, sectors int) {
	t.Helper()
	want(t, what+": Check", tile.Check(one, sectors), api.OK)
	b := encoded(t, one, sectors)
	holds(t, what, b, laid(one, sectors))
	sound(t, what, b, true)
	same(t, what, decoded(t, laid(one, sectors)), one)
}

// barred fails unless a tile is not valid for so many sectors, and has no bytes.
func barred(t *testing.T, what string, one api.Tile, sectors int) {
	t.Helper()
	want(t, what+": Check", tile.Check(one, sectors), api.ErrTile)
	b, e := tile.Encode(one, sectors)
	want(t, what+": Encode", e, api.ErrTile)
	if len(b) > 0 {
		t.Errorf("%s: Encode answers % X beside its error", what, b)
	}
}

// noise yields numbers that look like chance and are always the same.
type noise uint64

// next is the next number.
func (r *noise) next() uint64 {
	*r = *r*6364136223846793005 + 1442695040888963407
	return uint64(*r>>32) ^ uint64(*r)<<20
}

// below is the next number, from 0 on and below n.
func (r *noise) below(n int) int { return int(r.next() % uint64(n)) }

// tile is the next tile that is valid for so many sectors.
func (r *noise) tile(sectors int) api.Tile {
	one := api.Tile{File: int64(r.next()>>1 | 1), No: r.below(4096), Kind: 1 + r.below(2)}
	for range r.below(most(sectors) + 1) {
		x := int64(r.next())
		if one.Kind == api.KindChar {
			x = int64(r.below(0x110000))
		}
		one.Elems = append(one.Elems, x)
	}
	return one
}

// numbers are so many elements, none of which is 0 or a character.
func numbers(n int) []int64 {
	var l []int64
	for i := range n {
		l = append(l, -1-int64(i)*1_000_000_007)
	}
	return l
}
