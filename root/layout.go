package root

import (
	"quadrat/api"
	"quadrat/octet"
)

// mark is what each root's sector begins with. The fields stand behind it, in this order, and then zeros up to the checksum. The number stands at the very end once more: of a sector that is torn, one end is the old one's.
const (
	mark = "QR\x01\x00"

	numberSize   = 8
	lengthSize   = 4
	sumSize      = 4
	checksumSize = 4
	headSize     = api.Sector - checksumSize - numberSize
)

// head is what stands ahead of the checksum in a valid root's sector.
func head(r api.Root) []byte {
	var w octet.Writer
	w.Raw([]byte(mark))
	w.Num(numberSize, r.N)
	w.Num(lengthSize, uint64(r.Len))
	w.Num(sumSize, uint64(r.Sum))
	w.Raw(make([]byte, headSize-w.Len()))
	return w.Bytes()
}

// candidate is the only root that a sector can be of. Whether it is, and whether the root is valid, is left open: all but the fields is taken for granted.
func candidate(b []byte) api.Root {
	r := octet.Read(b)
	r.Raw(len(mark))
	n, _ := r.Num(numberSize)
	length, _ := r.Num(lengthSize)
	sum, _ := r.Num(sumSize)
	return api.Root{N: n, Len: int(length), Sum: uint32(sum)}
}
