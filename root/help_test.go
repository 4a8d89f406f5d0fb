package root_test

import (
	"bytes"
	"encoding/binary"
	"hash/crc32"
	"math"
	"slices"
	"testing"

	"quadrat/api"
	"quadrat/disk"
	"quadrat/root"
)

// want fails unless an error is the one that is asked for.
func want(t *testing.T, what string, got, asked api.Errno) {
	t.Helper()
	if got != asked {
		t.Errorf("%s: error %d, want %d", what, got, asked)
	}
}

// holds fails unless two lists of bytes are the same.
func holds(t *testing.T, what string, got, asked []byte) {
	t.Helper()
	if !bytes.Equal(got, asked) {
		t.Errorf("%s: % X, want % X", what, got, asked)
	}
}

// parts are what a sector tells, which need not be what a root may have.
type parts struct {
	mark        [4]byte
	n           uint64
	length, sum uint32
	rest        [96]byte
	again       uint64
}

// partsOf are those of a root.
func partsOf(r api.Root) parts {
	return parts{mark: [4]byte{0x51, 0x52, 0x01, 0x00}, n: r.N, length: uint32(r.Len), sum: r.Sum, again: r.N}
}

// bytes lays them into a sector, with the right checksum.
func (p parts) bytes() []byte {
	b := p.mark[:]
	b = binary.BigEndian.AppendUint64(b, p.n)
	b = binary.BigEndian.AppendUint32(b, p.length)
	b = binary.BigEndian.AppendUint32(b, p.sum)
	b = append(b, p.rest[:]...)
	b = binary.BigEndian.AppendUint32(b, crc32.ChecksumIEEE(b))
	return binary.BigEndian.AppendUint64(b, p.again)
}

// laid is a root's sector, worked out without the package.
func laid(r api.Root) []byte { return partsOf(r).bytes() }

// of is a root of that number.
func of(n uint64) api.Root {
	return api.Root{N: n, Len: int(n * 37 % 3073), Sum: uint32(n*2654435761 + 7)}
}

// numbers are some that a root may have: even and odd, small and great.
func numbers() []uint64 {
	l := []uint64{1, 2, 3, 4, 127, 128, 254, 255, 256, 257, 511, 512, 65534, 65535, 65536, 65537}
	for _, bit := range []int{24, 31, 32, 33, 40, 48, 56, 63} {
		l = append(l, 1<<bit-1, 1<<bit, 1<<bit+1)
	}
	return append(l, 0x0102030405060708, math.MaxUint64-2, math.MaxUint64-1, math.MaxUint64)
}

// accepted fails unless a root is valid, and its sector is just what the chapter says, both ways.
func accepted(t *testing.T, what string, r api.Root) {
	t.Helper()
	b, e := root.Encode(r)
	want(t, what+": Encode", e, api.OK)
	holds(t, what, b, laid(r))
	got, e := root.Decode(laid(r))
	if e != api.OK || got != r {
		t.Errorf("%s: Decode: error %d and %v, want %v", what, e, got, r)
	}
}

// barred fails unless a root is not valid, and has no sector that it could be saved or read with.
func barred(t *testing.T, what string, r api.Root) {
	t.Helper()
	b, e := root.Encode(r)
	want(t, what+": Encode", e, api.ErrRoot)
	if len(b) > 0 {
		t.Errorf("%s: Encode answers % X beside its error", what, b)
	}
	refused(t, what, laid(r))
	d := made(t, 2)
	want(t, what+": Save", root.Save(d, r), api.ErrRoot)
	if d.Writes() != 0 {
		t.Errorf("%s: Save writes", what)
	}
}

// refused fails unless Decode answers ErrRoot, and the zero root beside it.
func refused(t *testing.T, what string, b []byte) {
	t.Helper()
	r, e := root.Decode(b)
	if e != api.ErrRoot || r != (api.Root{}) {
		t.Errorf("%s: Decode of % X: error %d and %v, want ErrRoot", what, b, e, r)
	}
}

// made is a new disk of so many sectors.
func made(t *testing.T, sectors int) *disk.Disk {
	t.Helper()
	d, e := disk.New(sectors)
	if e != api.OK {
		t.Fatalf("New(%d): error %d", sectors, e)
	}
	return d
}

// with is a new disk on which roots were saved.
func with(t *testing.T, sectors int, saved ...api.Root) *disk.Disk {
	t.Helper()
	d := made(t, sectors)
	for _, r := range saved {
		save(t, d, r)
	}
	return d
}

// save saves a root, which must go well.
func save(t *testing.T, d *disk.Disk, r api.Root) {
	t.Helper()
	if e := root.Save(d, r); e != api.OK {
		t.Errorf("Save(%v): error %d", r, e)
	}
}

// has fails unless the roots of the slots that count are just these, and the first of them is the disk's.
func has(t *testing.T, what string, d *disk.Disk, asked ...api.Root) {
	t.Helper()
	l, e := root.Both(d)
	if e != api.OK || !slices.Equal(l, asked) {
		t.Errorf("%s: Both: error %d and %v, want %v", what, e, l, asked)
	}
	first := api.Root{}
	if len(asked) > 0 {
		first = asked[0]
	}
	r, e := root.Load(d)
	if e != api.OK || r != first {
		t.Errorf("%s: Load: error %d and %v, want %v", what, e, r, first)
	}
}

// fails fails unless Both and Load answer that error, and nothing beside it.
func fails(t *testing.T, what string, d *disk.Disk, asked api.Errno) {
	t.Helper()
	l, e := root.Both(d)
	if e != asked || len(l) > 0 {
		t.Errorf("%s: Both: error %d and %v, want error %d", what, e, l, asked)
	}
	r, e := root.Load(d)
	if e != asked || r != (api.Root{}) {
		t.Errorf("%s: Load: error %d and %v, want error %d", what, e, r, asked)
	}
}

// spoil replaces what is durable of a sector.
func spoil(t *testing.T, d *disk.Disk, at int, b []byte) {
	t.Helper()
	want(t, "Spoil", d.Spoil(at, b), api.OK)
}

// crash lets the disk go down by a crash, and boots it.
func crash(t *testing.T, d *disk.Disk, c api.Crash) {
	t.Helper()
	want(t, "Down", d.Down(c), api.OK)
	want(t, "Boot", d.Boot(), api.OK)
}

// reads fails unless a sector has just these bytes.
func reads(t *testing.T, what string, d *disk.Disk, at int, asked []byte) {
	t.Helper()
	b, e := d.Read(at)
	want(t, what+": Read", e, api.OK)
	holds(t, what, b, asked)
}

// full is a sector of one byte.
func full(x byte) []byte { return bytes.Repeat([]byte{x}, api.Sector) }

// noise yields numbers that look like chance and are always the same.
type noise uint64

// next is the next number.
func (r *noise) next() uint64 {
	*r = *r*6364136223846793005 + 1442695040888963407
	return uint64(*r>>32) ^ uint64(*r)<<20
}

// below is the next number, from 0 on and below n.
func (r *noise) below(n int) int { return int(r.next() % uint64(n)) }
