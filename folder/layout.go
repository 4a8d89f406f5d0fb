package folder

import (
	"quadrat/api"
	"quadrat/octet"
)

// mark is what each folder's bytes begin with. The fields stand behind it, and then the entries.
const mark = "QF\x01\x00"

// The sizes of numbers, in bytes.
const (
	byteSize  = 1
	shortSize = 2
	wordSize  = 4
	longSize  = 8
)

// encoding is a valid folder's bytes. No write can fail: every field of such a folder goes into its bytes.
func encoding(f api.Folder) []byte {
	var w octet.Writer
	w.Raw([]byte(mark))
	w.Num(longSize, f.N)
	writeSetting(&w, f.Set)
	w.Num(longSize, uint64(f.Next))
	w.Num(shortSize, uint64(f.Done))
	w.Num(byteSize, uint64(f.State))
	w.Num(shortSize, uint64(f.Err))
	w.Num(wordSize, uint64(f.Len))
	w.Num(wordSize, uint64(f.Sum))
	w.Num(byteSize, uint64(len(f.Entries)))
	for _, x := range f.Entries {
		writeEntry(&w, x)
	}
	return w.Bytes()
}

// writeSetting writes a setting's fields.
func writeSetting(w *octet.Writer, s api.Setting) {
	fused := uint64(0)
	if s.Fused {
		fused = 1
	}
	w.Num(shortSize, uint64(s.Frames))
	w.Num(shortSize, uint64(s.Tile))
	w.Num(shortSize, uint64(s.Fan))
	w.Num(byteSize, fused)
	w.Num(shortSize, uint64(s.Journal))
	w.Num(shortSize, uint64(s.Sectors))
}

// writeEntry writes an entry's fields.
func writeEntry(w *octet.Writer, x api.Entry) {
	w.Text(x.Name)
	w.Num(longSize, uint64(x.No))
	w.Num(byteSize, uint64(x.Kind))
	w.Num(byteSize, uint64(len(x.Shape)))
	for _, axis := range x.Shape {
		w.Num(shortSize, uint64(axis))
	}
	w.Num(shortSize, uint64(x.At))
	w.Num(shortSize, uint64(x.Tiles))
}

// candidate is the only folder that bytes can be the encoding of, and whether they are laid out as one: each field has one way to be written, so all that is left open is whether the folder is valid.
func candidate(b []byte) (api.Folder, bool) {
	r := octet.Read(b)
	head, e := r.Raw(len(mark))
	whole := e == api.OK && string(head) == mark
	num := func(size int) uint64 {
		n, e := r.Num(size)
		whole = whole && e == api.OK
		return n
	}
	flag := func() bool {
		n := num(byteSize)
		whole = whole && n <= 1
		return n == 1
	}
	f := readFields(num, flag)
	for range num(byteSize) {
		name, e := r.Text()
		whole = whole && e == api.OK
		f.Entries = append(f.Entries, readEntry(name, num))
	}
	return f, whole && r.End() == api.OK
}

// readFields reads what stands between the mark and the number of entries. The calls are made in the order in which they stand, which is that of the bytes.
func readFields(num func(size int) uint64, flag func() bool) api.Folder {
	return api.Folder{
		N: num(longSize),
		Set: api.Setting{
			Frames:  int(num(shortSize)),
			Tile:    int(num(shortSize)),
			Fan:     int(num(shortSize)),
			Fused:   flag(),
			Journal: int(num(shortSize)),
			Sectors: int(num(shortSize)),
		},
		Next:  int64(num(longSize)),
		Done:  int(num(shortSize)),
		State: int(num(byteSize)),
		Err:   api.Errno(num(shortSize)),
		Len:   int(num(wordSize)),
		Sum:   uint32(num(wordSize)),
	}
}

// readEntry reads what stands behind an entry's name.
func readEntry(name string, num func(size int) uint64) api.Entry {
	x := api.Entry{Name: name, No: int64(num(longSize)), Kind: int(num(byteSize))}
	for range num(byteSize) {
		x.Shape = append(x.Shape, int(num(shortSize)))
	}
	x.At, x.Tiles = int(num(shortSize)), int(num(shortSize))
	return x
}
