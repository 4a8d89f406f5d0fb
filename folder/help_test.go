package folder_test

import (
	"bytes"
	"encoding/binary"
	"hash/crc32"
	"reflect"
	"slices"
	"strings"
	"testing"

	"quadrat/api"
	"quadrat/disk"
	"quadrat/folder"
	"quadrat/root"
)

// letters are those that names begin with, in the order of bytes.
const letters = "ABCDEFGHIJKLMNOPQRSTUVWXYZabcdefghijklmnopqrstuvwxyz"

// want fails unless an error is the one that is asked for.
func want(t *testing.T, what string, got, asked api.Errno) {
	t.Helper()
	if got != asked {
		t.Errorf("%s: error %d, want %d", what, got, asked)
	}
}

// holds fails unless two lists of bytes are the same.
func holds(t *testing.T, what string, got, asked []byte) {
	t.Helper()
	if !bytes.Equal(got, asked) {
		t.Errorf("%s: % X, want % X", what, got, asked)
	}
}

// copied is a folder that has its lists for itself; of those that have nothing, it has none.
func copied(f api.Folder) api.Folder {
	var entries []api.Entry
	for _, x := range f.Entries {
		x.Shape = append([]int(nil), x.Shape...)
		entries = append(entries, x)
	}
	f.Entries = entries
	return f
}

// equal says whether two folders are the same, without asking the package.
func equal(one, two api.Folder) bool { return reflect.DeepEqual(copied(one), copied(two)) }

// same fails unless two folders are the same.
func same(t *testing.T, what string, got, asked api.Folder) {
	t.Helper()
	if !equal(got, asked) {
		t.Errorf("%s: %v, want %v", what, got, asked)
	}
}

// setting is one that is valid: its tiles have 29 elements, and its data area begins with sector 60.
func setting() api.Setting {
	return api.Setting{Frames: 9, Tile: 2, Fan: 3, Fused: true, Journal: 10, Sectors: 200}
}

// plain is a folder that is valid.
func plain() api.Folder {
	return api.Folder{N: 5, Set: setting(), Entries: []api.Entry{
		{Name: "a", No: 3, Kind: api.KindNum, Shape: []int{2, 29}, At: 90, Tiles: 2},
		{Name: "b_1", No: 1, Kind: api.KindChar, Shape: nil, At: 60, Tiles: 1},
		{Name: "zero", No: 7, Kind: api.KindNum, Shape: []int{4, 0, 3}},
	}, Next: 8, Done: 2, State: api.Running, Len: 65, Sum: 0xC1C2C3C4}
}

// bare is a folder that is valid and has no entries.
func bare(n uint64) api.Folder { return api.Folder{N: n, Set: setting(), Next: 1} }

// of is a valid folder of that number, which differs from those of the numbers around it in all that it can.
func of(n uint64) api.Folder {
	f := plain()
	f.N, f.Sum, f.Done = n, uint32(n*2654435761+7), int(n%1001)
	f.Entries = f.Entries[:n%4%3+1]
	f.Entries[0].No = 2 + int64(n%3)
	return f
}

// alike is a valid folder that has nothing but its number of its own.
func alike(n uint64) api.Folder {
	f := plain()
	f.N = n
	return f
}

// sized is a valid folder with an encoding of so many bytes: 45, and then 19 to 36 more for each of up to 40 entries.
func sized(n uint64, size int) api.Folder {
	f := bare(n)
	f.Next = 100
	count := (size - 45 + 35) / 36
	extra := size - 45 - 19*count
	for i := range count {
		take := min(extra, 17)
		extra -= take
		axes := max(0, take-11+1) / 2
		f.Entries = append(f.Entries, api.Entry{Name: letters[i:i+1] + strings.Repeat("x", take-2*axes), No: int64(i + 1), Kind: api.KindNum, Shape: make([]int, 1+axes)})
	}
	return f
}

// sheet is bytes to which numbers are added; whole says whether all of them went into their bytes.
type sheet struct {
	b     []byte
	whole bool
}

// num adds a number of so many bytes.
func (s *sheet) num(size int, n uint64) {
	for i := size - 1; i >= 0; i-- {
		s.b = append(s.b, byte(n>>(8*i)))
	}
	s.whole = s.whole && n>>(8*size) == 0
}

// laidOut is a folder's encoding, worked out without the package, also of a folder that is not valid; and whether all of its numbers went into it.
func laidOut(f api.Folder) ([]byte, bool) {
	s := &sheet{b: []byte{0x51, 0x46, 0x01, 0x00}, whole: true}
	s.num(8, f.N)
	s.num(2, uint64(f.Set.Frames))
	s.num(2, uint64(f.Set.Tile))
	s.num(2, uint64(f.Set.Fan))
	s.num(1, map[bool]uint64{true: 1}[f.Set.Fused])
	s.num(2, uint64(f.Set.Journal))
	s.num(2, uint64(f.Set.Sectors))
	s.num(8, uint64(f.Next))
	s.num(2, uint64(f.Done))
	s.num(1, uint64(f.State))
	s.num(2, uint64(f.Err))
	s.num(4, uint64(f.Len))
	s.num(4, uint64(f.Sum))
	s.num(1, uint64(len(f.Entries)))
	for _, x := range f.Entries {
		s.num(2, uint64(len(x.Name)))
		s.b = append(s.b, x.Name...)
		s.num(8, uint64(x.No))
		s.num(1, uint64(x.Kind))
		s.num(1, uint64(len(x.Shape)))
		for _, axis := range x.Shape {
			s.num(2, uint64(axis))
		}
		s.num(2, uint64(x.At))
		s.num(2, uint64(x.Tiles))
	}
	return s.b, s.whole
}

// laid is a folder's encoding, worked out without the package.
func laid(f api.Folder) []byte {
	b, _ := laidOut(f)
	return b
}

// padded is bytes with zeros behind them as far as the last sector goes.
func padded(b []byte) []byte { return append(bytes.Clone(b), make([]byte, (128-len(b)%128)%128)...) }

// area is where the area of a number begins, as chapter 6 words it.
func area(n uint64) int { return 2 + 24*int(n%2) }

// accepted fails unless a folder is valid, and its encoding is just what the chapter says, both ways.
func accepted(t *testing.T, what string, f api.Folder) {
	t.Helper()
	want(t, what+": CheckSetting", folder.CheckSetting(f.Set), api.OK)
	want(t, what+": Check", folder.Check(f), api.OK)
	b, e := folder.Encode(f)
	want(t, what+": Encode", e, api.OK)
	holds(t, what, b, laid(f))
	g, e := folder.Decode(laid(f))
	want(t, what+": Decode", e, api.OK)
	same(t, what, g, f)
}

// barred fails unless a folder is not valid, has no encoding, is in no bytes, and is not committed.
func barred(t *testing.T, what string, f api.Folder) {
	t.Helper()
	want(t, what+": Check", folder.Check(f), api.ErrFolder)
	b, e := folder.Encode(f)
	want(t, what+": Encode", e, api.ErrFolder)
	if len(b) > 0 {
		t.Errorf("%s: Encode answers % X beside its error", what, b)
	}
	if b, whole := laidOut(f); whole {
		refused(t, what, b)
	}
	d := made(t, 60)
	want(t, what+": Commit", folder.Commit(d, f), api.ErrFolder)
	if d.Writes() != 0 {
		t.Errorf("%s: Commit writes", what)
	}
}

// refused fails unless Decode answers ErrFolder, and the zero folder beside it.
func refused(t *testing.T, what string, b []byte) {
	t.Helper()
	f, e := folder.Decode(b)
	if e != api.ErrFolder || !equal(f, api.Folder{}) {
		t.Errorf("%s: Decode of % X: error %d and %v, want ErrFolder", what, b, e, f)
	}
}

// turned is the plain folder behind a change of it.
func turned(change func(f *api.Folder)) api.Folder {
	f := plain()
	change(&f)
	return f
}

// made is a new disk of so many sectors.
func made(t *testing.T, sectors int) *disk.Disk {
	t.Helper()
	d, e := disk.New(sectors)
	if e != api.OK {
		t.Fatalf("New(%d): error %d", sectors, e)
	}
	return d
}

// with is a new disk on which folders were committed.
func with(t *testing.T, sectors int, committed ...api.Folder) *disk.Disk {
	t.Helper()
	d := made(t, sectors)
	for _, f := range committed {
		commit(t, d, f)
	}
	return d
}

// commit commits a folder, which must go well.
func commit(t *testing.T, d *disk.Disk, f api.Folder) {
	t.Helper()
	if e := folder.Commit(d, f); e != api.OK {
		t.Errorf("Commit of number %d: error %d", f.N, e)
	}
}

// has fails unless a disk's folder is this one.
func has(t *testing.T, what string, d *disk.Disk, asked api.Folder) {
	t.Helper()
	f, e := folder.Load(d)
	want(t, what+": Load", e, api.OK)
	same(t, what, f, asked)
}

// fails fails unless Load answers that error, and the zero folder beside it.
func fails(t *testing.T, what string, d *disk.Disk, asked api.Errno) {
	t.Helper()
	f, e := folder.Load(d)
	want(t, what+": Load", e, asked)
	same(t, what, f, api.Folder{})
}

// is fails unless a disk's folder is this one, or there is none if this one has no number.
func is(t *testing.T, what string, d *disk.Disk, asked api.Folder) {
	t.Helper()
	if asked.N == 0 {
		fails(t, what, d, api.ErrFolder)
	} else {
		has(t, what, d, asked)
	}
}

// spoil replaces what is durable of the sectors from one on.
func spoil(t *testing.T, d *disk.Disk, at int, b []byte) {
	t.Helper()
	for part := range slices.Chunk(padded(b), 128) {
		want(t, "Spoil", d.Spoil(at, part), api.OK)
		at++
	}
}

// place puts bytes into the area of a number, and a root that tells of them into its slot, whatever the bytes are.
func place(t *testing.T, d *disk.Disk, n uint64, b []byte) {
	t.Helper()
	spoil(t, d, area(n), b)
	want(t, "Save", root.Save(d, api.Root{N: n, Len: len(b), Sum: crc32.ChecksumIEEE(b)}), api.OK)
}

// reads fails unless the sectors from one on have just these bytes.
func reads(t *testing.T, what string, d *disk.Disk, at int, asked []byte) {
	t.Helper()
	for part := range slices.Chunk(asked, 128) {
		b, e := d.Read(at)
		want(t, what+": Read", e, api.OK)
		holds(t, what, b, part)
		at++
	}
}

// full is a sector of one byte.
func full(x byte) []byte { return bytes.Repeat([]byte{x}, api.Sector) }

// rooted is the sector of the root that tells of a folder, as chapter 6 words it.
func rooted(f api.Folder) []byte {
	folderBytes := laid(f)
	b := binary.BigEndian.AppendUint64([]byte{0x51, 0x52, 0x01, 0x00}, f.N)
	b = binary.BigEndian.AppendUint32(b, uint32(len(folderBytes)))
	b = binary.BigEndian.AppendUint32(b, crc32.ChecksumIEEE(folderBytes))
	b = append(b, make([]byte, 96)...)
	b = binary.BigEndian.AppendUint32(b, crc32.ChecksumIEEE(b))
	return binary.BigEndian.AppendUint64(b, f.N)
}

// noise yields numbers that look like chance and are always the same.
type noise uint64

// next is the next number.
func (r *noise) next() uint64 {
	*r = *r*6364136223846793005 + 1442695040888963407
	return uint64(*r>>32) ^ uint64(*r)<<20
}

// below is the next number, from 0 on and below n.
func (r *noise) below(n int) int { return int(r.next() % uint64(n)) }

// one is one of a list.
func one[T any](r *noise, l ...T) T { return l[r.below(len(l))] }
