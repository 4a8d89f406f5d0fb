package folder_test

import (
	"bytes"
	"testing"

	"quadrat/api"
	"quadrat/folder"
)

// The terms' own layout, byte by byte.
func TestBytesOfAFolder(t *testing.T) {
	f := api.Folder{
		N:   0x0102030405060708,
		Set: api.Setting{Frames: 0x3F, Tile: 2, Fan: 0x0C, Fused: true, Journal: 0x0304, Sectors: 0x0FA0},
		Entries: []api.Entry{
			{Name: "Ab_9", No: 0x1112131415161718, Kind: api.KindChar, Shape: []int{0x1D, 0x20, 1}, At: 0x0405, Tiles: 0x20},
			{Name: "c", No: 0x21, Kind: api.KindNum, Shape: []int{0x1000, 0}},
		},
		Next: 0x3132333435363738, Done: 0x0304, State: api.Failed, Err: 0x0102, Len: 0x010000, Sum: 0xC1C2C3C4,
	}
	b, e := folder.Encode(f)
	want(t, "Encode", e, api.OK)
	holds(t, "the bytes", b, []byte{
		0x51, 0x46, 0x01, 0x00,
		1, 2, 3, 4, 5, 6, 7, 8,
		0, 0x3F, 0, 2, 0, 0x0C,
		1,
		0x03, 0x04, 0x0F, 0xA0,
		0x31, 0x32, 0x33, 0x34, 0x35, 0x36, 0x37, 0x38,
		0x03, 0x04,
		2,
		0x01, 0x02,
		0, 1, 0, 0,
		0xC1, 0xC2, 0xC3, 0xC4,
		2,
		0, 4, 'A', 'b', '_', '9',
		0x11, 0x12, 0x13, 0x14, 0x15, 0x16, 0x17, 0x18,
		2,
		3, 0, 0x1D, 0, 0x20, 0, 1,
		0x04, 0x05, 0, 0x20,
		0, 1, 'c',
		0, 0, 0, 0, 0, 0, 0, 0x21,
		1,
		2, 0x10, 0x00, 0, 0,
		0, 0, 0, 0,
	})
	accepted(t, "the folder", f)
}

func TestBytesOfABareFolder(t *testing.T) {
	f := api.Folder{N: 1, Set: api.Setting{Frames: 8, Tile: 1, Fan: 2, Journal: 8, Sectors: 58}, Next: 1}
	b, e := folder.Encode(f)
	want(t, "Encode", e, api.OK)
	holds(t, "the bytes", b, append([]byte{
		0x51, 0x46, 1, 0, 0, 0, 0, 0, 0, 0, 0, 1, 0, 8, 0, 1, 0, 2, 0, 0, 8, 0, 58, 0, 0, 0, 0, 0, 0, 0, 1,
	}, make([]byte, 14)...))
	if len(b) != 45 {
		t.Errorf("%d bytes", len(b))
	}
}

// sizes are those that encodings have: of no entry, and of one or more.
func sizes() []int {
	l := []int{45}
	for n := 64; n <= 1485; n++ {
		if (n-45)-19*((n-45+35)/36) >= 0 {
			l = append(l, n)
		}
	}
	return l
}

func TestSizes(t *testing.T) {
	for _, n := range sizes() {
		f := sized(1, n)
		if b := laid(f); len(b) != n {
			t.Fatalf("the test itself has %d bytes, want %d", len(b), n)
		}
		accepted(t, "a size", f)
	}
}

func TestNoListsAndEmptyOnes(t *testing.T) {
	f, g := bare(1), bare(1)
	g.Entries = []api.Entry{}
	accepted(t, "nil", f)
	accepted(t, "empty", g)
	f, g = named("a"), named("a")
	g.Entries[0].Shape = []int{}
	accepted(t, "nil", f)
	accepted(t, "empty", g)
}

// Each field has bytes of its own: a folder that differs in one of them has another encoding.
func TestOtherFoldersHaveOtherBytes(t *testing.T) {
	owner := map[string]int{string(laid(plain())): -1}
	for i, f := range neighbours() {
		b, e := folder.Encode(f)
		if e != api.OK { // not every neighbour is valid
			continue
		}
		if other, has := owner[string(b)]; has {
			t.Errorf("%v and neighbour %d have the same bytes", f, other)
		}
		owner[string(b)] = i
	}
	if len(owner) < 20 {
		t.Errorf("only %d neighbours are valid", len(owner))
	}
}

// An answer hangs on its argument alone, not on what was asked before.
func TestAnswersHangOnArgumentsAlone(t *testing.T) {
	r := noise(5)
	var list []api.Folder
	for range 30 {
		list = append(list, r.folder())
	}
	for range 300 {
		i := r.below(len(list))
		accepted(t, "asked again", list[i])
		b := laid(list[i])
		refused(t, "something else between", b[:r.below(len(b))])
		b, e := folder.Encode(api.Folder{N: 1, Entries: list[i].Entries})
		if e != api.ErrFolder || !bytes.Equal(b, nil) {
			t.Errorf("something else between: error %d and % X", e, b)
		}
	}
}
