package folder

import (
	"iter"
	"slices"

	"quadrat/api"
	"quadrat/crc"
	"quadrat/disk"
	"quadrat/root"
)

// write writes bytes from a sector on, with zeros behind them as far as the last sector goes.
func write(d *disk.Disk, at int, b []byte) api.Errno {
	for part := range slices.Chunk(b, api.Sector) {
		var sector [api.Sector]byte
		copy(sector[:], part)
		if e := d.Write(at, sector[:]); e != api.OK {
			return e
		}
		at++
	}
	return api.OK
}

// read is so many bytes from a sector on, unless they extend beyond the disk's end.
func read(d *disk.Disk, at, size int) ([]byte, bool) {
	var b []byte
	for ; len(b) < size; at++ {
		sector, e := d.Read(at)
		if e != api.OK {
			return nil, false
		}
		b = append(b, sector...)
	}
	return b[:size], true
}

// areas yields roots in their order, each with as many bytes of its area as it tells of. A root is passed over if the disk ends ahead of them, as there is nothing that its sum could be held against.
func areas(d *disk.Disk, roots []api.Root) iter.Seq2[api.Root, []byte] {
	return func(yield func(api.Root, []byte) bool) {
		for _, r := range roots {
			b, has := read(d, root.Area(r.N), r.Len)
			if has && !yield(r, b) {
				return
			}
		}
	}
}

// folderOf is the folder that a root has with the bytes of its area, if it has one.
func folderOf(r api.Root, b []byte) (api.Folder, bool) {
	if crc.Of(b) != r.Sum {
		return api.Folder{}, false
	}
	f, e := Decode(b)
	if e != api.OK || f.N != r.N {
		return api.Folder{}, false
	}
	return f, true
}
