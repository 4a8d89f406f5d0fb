package tile

import (
	"iter"

	"quadrat/api"
	"quadrat/octet"
)

// mark is what each tile's bytes begin with. The fields stand behind it, in this order; the sum stands at the very end.
const (
	mark = "QT\x01"

	kindSize    = 1
	fileSize    = 8
	noSize      = 4
	countSize   = 4
	headSize    = len(mark) + kindSize + fileSize + noSize + countSize
	elementSize = 8
	sumSize     = 4
)

// isSize says whether a tile may have so many sectors.
func isSize(sectors int) bool { return sectors >= 1 && sectors <= api.MaxTileSectors }

// sectorsOf is how many sectors bytes fill, or 0 if a tile can't have as many bytes.
func sectorsOf(b []byte) int {
	sectors := len(b) / api.Sector
	if len(b)%api.Sector != 0 || !isSize(sectors) {
		return 0
	}
	return sectors
}

// writeFields writes what stands between the mark and the elements.
func writeFields(write func(size int, n uint64) api.Errno, t api.Tile) {
	write(kindSize, uint64(t.Kind))
	write(fileSize, uint64(t.File))
	write(noSize, uint64(t.No))
	write(countSize, uint64(len(t.Elems)))
}

// elements yields the elements that a reader has ahead, with their indices, as far as there is room for them. It does not know how many the tile has, and goes on into the zeros behind them, so whoever asks must leave.
func elements(r *octet.Reader) iter.Seq2[int, int64] {
	return func(yield func(int, int64) bool) {
		for i := 0; ; i++ {
			x, e := r.Int()
			if e != api.OK || !yield(i, x) {
				return
			}
		}
	}
}

// candidate is the only tile that bytes, which fill sectors, can be the encoding of. Whether they are is left open: it takes the mark, the zeros and the sum for granted, and has fewer elements than the bytes tell if there is no room for so many.
func candidate(b []byte) api.Tile {
	r := octet.Read(b)
	r.Raw(len(mark))
	kind, _ := r.Num(kindSize)
	file, _ := r.Num(fileSize)
	no, _ := r.Num(noSize)
	count, _ := r.Num(countSize)
	t := api.Tile{File: int64(file), No: int(no), Kind: int(kind)}
fill:
	for i, x := range elements(r) {
		if uint64(i) == count {
			break fill
		}
		t.Elems = append(t.Elems, x)
	}
	return t
}
