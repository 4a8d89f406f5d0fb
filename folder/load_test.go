package folder_test

import (
	"bytes"
	"hash/crc32"
	"math"
	"testing"

	"quadrat/api"
	"quadrat/folder"
	"quadrat/root"
)

// rootless fails unless a disk with these roots, and with nothing in its areas, has no folder.
func rootless(t *testing.T, sectors int, l ...api.Root) {
	t.Helper()
	d := made(t, sectors)
	for _, r := range l {
		want(t, "Save", root.Save(d, r), api.OK)
	}
	fails(t, "roots without folders", d, api.ErrFolder)
}

// The chapter's example, and disks of other sizes.
func TestLoadOfANewDisk(t *testing.T) {
	for _, sectors := range []int{2, 3, 25, 26, 27, 49, 50, 100, 4096} {
		fails(t, "a new disk", made(t, sectors), api.ErrFolder)
	}
	fails(t, "a disk of one sector", made(t, 1), api.ErrDisk)
}

func TestRootsWithoutFolders(t *testing.T) {
	for _, sectors := range []int{2, 3, 26, 50} {
		rootless(t, sectors, api.Root{N: 1})
		rootless(t, sectors, api.Root{N: 2})
		rootless(t, sectors, api.Root{N: 1, Len: 3072}, api.Root{N: 2, Len: 3072})
		rootless(t, sectors, api.Root{N: 1, Len: 45, Sum: 1}, api.Root{N: 2, Len: 128, Sum: crc32.ChecksumIEEE(full(0))})
		rootless(t, sectors, api.Root{N: math.MaxUint64, Len: 128, Sum: crc32.ChecksumIEEE(full(0))}, api.Root{N: math.MaxUint64 - 1})
	}
}

// second fails unless, behind a spoiling of the folder of a greater number, that of the lower one is the disk's.
func second(t *testing.T, what string, n uint64, b []byte) {
	t.Helper()
	d := with(t, 50, of(n-1))
	place(t, d, n, b)
	has(t, what, d, of(n-1))
	alone := made(t, 50)
	place(t, alone, n, b)
	fails(t, what, alone, api.ErrFolder)
}

// Whatever the bytes are that a root tells of, they count only if they are an encoding of a valid folder of its number.
func TestAreasWithoutFolders(t *testing.T) {
	for _, n := range []uint64{2, 3, 256, 1 << 40} {
		d := with(t, 50, of(n-1))
		place(t, d, n, laid(of(n)))
		has(t, "the folder itself", d, of(n))
		second(t, "another number", n, laid(of(n-1)))
		second(t, "another number of the same turn", n, laid(of(n+2)))
		second(t, "another number", n, laid(of(n+1)))
		second(t, "a number of 0", n, laid(bare(0)))
		second(t, "no bytes", n, nil)
		second(t, "a zero", n, []byte{0})
		second(t, "zeros", n, make([]byte, 3072))
		b := laid(of(n))
		second(t, "less its last byte", n, b[:len(b)-1])
		second(t, "with a byte more", n, append(bytes.Clone(b), 0))
		second(t, "with the zeros of its sectors", n, padded(append(b, 0)))
		second(t, "a byte ahead", n, append([]byte{0}, b...))
		bad := of(n)
		bad.Done = 1001
		second(t, "a folder that is not valid", n, laid(bad))
		b = laid(of(n))
		b[fusedAt] = 2
		second(t, "Fused of 2", n, b)
	}
}

// A root whose sum is another one than that of the bytes has no folder, be they an encoding or not.
func TestSumsOfRoots(t *testing.T) {
	for _, n := range []uint64{4, 5} {
		b := laid(of(n))
		for bit := range 32 {
			d := with(t, 50, of(n-1))
			spoil(t, d, area(n), b)
			want(t, "Save", root.Save(d, api.Root{N: n, Len: len(b), Sum: crc32.ChecksumIEEE(b) ^ 1<<bit}), api.OK)
			has(t, "another sum", d, of(n-1))
		}
		for _, by := range []int{-1, 1, -len(b), 3072 - len(b)} {
			d := with(t, 50, of(n-1))
			spoil(t, d, area(n), b)
			want(t, "Save", root.Save(d, api.Root{N: n, Len: len(b) + by, Sum: crc32.ChecksumIEEE(b)}), api.OK)
			has(t, "another length", d, of(n-1))
		}
	}
}

// Any bit of what was committed may be turned; what stands behind the encoding may be anything.
func TestSpoiledAreas(t *testing.T) {
	for _, n := range []uint64{4, 5} {
		d := with(t, 50, of(n-1), of(n))
		b := padded(laid(of(n)))
		size := len(laid(of(n)))
		for at := range b {
			for _, by := range []byte{1, 128, 255} {
				b[at] ^= by
				spoil(t, d, area(n), b)
				if at < size {
					has(t, "a turned byte", d, of(n-1))
				} else {
					has(t, "a turned byte behind the encoding", d, of(n))
				}
				b[at] ^= by
			}
		}
		for i := range 24 - len(b)/128 {
			want(t, "Spoil", d.Spoil(area(n)+len(b)/128+i, full(9)), api.OK)
		}
		spoil(t, d, area(n), b)
		has(t, "sectors behind the encoding", d, of(n))
		spoil(t, d, area(n-1), full(0))
		has(t, "the other area", d, of(n))
		spoil(t, d, area(n), full(0))
		fails(t, "both areas", d, api.ErrFolder)
	}
}

func TestSpoiledSlots(t *testing.T) {
	for _, n := range []uint64{4, 5} {
		d := with(t, 50, of(n-1), of(n))
		spoil(t, d, int((n-1)%2), full(1))
		has(t, "the other slot", d, of(n))
		d = with(t, 50, of(n-1), of(n))
		spoil(t, d, int(n%2), full(1))
		has(t, "the slot", d, of(n-1))
		spoil(t, d, int((n-1)%2), full(1))
		fails(t, "both slots", d, api.ErrFolder)
	}
}

// A root's bytes may extend to the disk's end, but not beyond it, even if what there is of them has the root's sum.
func TestEndsOfDisks(t *testing.T) {
	f := of(3)
	b := laid(f)
	whole := len(padded(b)) / 128
	for extra := range 4 {
		d := made(t, 26+whole+extra)
		commit(t, d, of(2))
		place(t, d, 3, b)
		has(t, "within the disk", d, f)
		for _, size := range []int{128*(whole+extra) + 1, 128*(whole+extra) + 128, 3072} {
			if size > 3072 {
				continue
			}
			for _, sum := range []uint32{0, crc32.ChecksumIEEE(b), crc32.ChecksumIEEE(padded(b))} {
				want(t, "Save", root.Save(d, api.Root{N: 3, Len: size, Sum: sum}), api.OK)
				has(t, "beyond the disk", d, of(2))
			}
		}
	}
	small := made(t, 26)
	commit(t, small, of(2))
	want(t, "Save", root.Save(small, api.Root{N: 3, Len: 1, Sum: 5}), api.OK)
	has(t, "an area that there is not", small, of(2))
	tiny := made(t, 2)
	want(t, "Save", root.Save(tiny, api.Root{N: 2, Len: 1, Sum: 5}), api.OK)
	fails(t, "no areas at all", tiny, api.ErrFolder)
}

// The greater number may be in either area, and the disk may end between them.
func TestRootBeyondTheEndComesFirst(t *testing.T) {
	d := made(t, 20)
	commit(t, d, of(4))
	for _, n := range []uint64{1, 3, 5, 1<<50 + 1, math.MaxUint64} {
		want(t, "Save", root.Save(d, api.Root{N: n, Len: 100, Sum: 5}), api.OK)
		has(t, "a root beyond the end", d, of(4))
	}
}

// Load only reads.
func TestLoadWritesNothing(t *testing.T) {
	d := with(t, 50, of(1), of(2))
	want(t, "Write", d.Write(40, full(3)), api.OK)
	before := d.Writes()
	has(t, "twice", d, of(2))
	has(t, "twice", d, of(2))
	if d.Writes() != before || len(d.Waits()) != 1 {
		t.Errorf("%d writes, and %v are pending", d.Writes()-before, d.Waits())
	}
}

// What is pending is read as it is, as a disk has it.
func TestLoadOfPendingSectors(t *testing.T) {
	d := with(t, 50, of(1), of(2))
	want(t, "Write", d.Write(2, full(3)), api.OK)
	has(t, "a pending sector", d, of(1))
	want(t, "Down", d.Down(api.Crash{Torn: -1}), api.OK)
	want(t, "Boot", d.Boot(), api.OK)
	has(t, "behind the crash", d, of(2))
	if f, e := folder.Load(d.Copy()); e != api.OK || f.N != 2 {
		t.Errorf("of a copy: error %d and number %d", e, f.N)
	}
}
