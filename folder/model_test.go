package folder_test

import (
	"math"
	"strings"
	"testing"

	"quadrat/api"
	"quadrat/folder"
)

// validSetting says whether a setting is valid, as the chapter words it.
func validSetting(s api.Setting) bool {
	for _, c := range [][3]int{{8, s.Frames, 64}, {1, s.Tile, 64}, {2, s.Fan, 16}, {8, s.Journal, 1024}} {
		if c[1] < c[0] || c[1] > c[2] {
			return false
		}
	}
	return s.Sectors >= 50+s.Journal && s.Sectors <= 4096
}

// validName says whether a name is one, as the chapter words it.
func validName(name string) bool {
	if name == "" || len(name) > 12 || !strings.Contains(letters, name[:1]) {
		return false
	}
	return strings.IndexFunc(name, func(c rune) bool { return !strings.ContainsRune(letters+"0123456789_", c) }) < 0
}

// valid says whether a folder is valid, as the chapter words it: its sectors are taken one by one.
func valid(f api.Folder) bool {
	if f.N == 0 || !validSetting(f.Set) || len(f.Entries) > 40 || f.Next < 1 || f.Done < 0 || f.Done > 1000 || f.Len < 0 || f.Len > 65536 {
		return false
	}
	if f.State < 0 || f.State > 2 || f.State < 2 && f.Err != 0 || f.State == 2 && (f.Err < 1 || f.Err > 999) {
		return false
	}
	taken, numbers, before := make(map[int]bool), make(map[int64]bool), ""
	for _, x := range f.Entries {
		if !validName(x.Name) || x.Name <= before || x.No < 1 || x.No >= f.Next || numbers[x.No] || x.Kind != 1 && x.Kind != 2 {
			return false
		}
		before, numbers[x.No] = x.Name, true
		if tiles := tilesOf(x.Shape, f.Set.Tile); tiles < 0 || tiles != x.Tiles || tiles == 0 && x.At != 0 {
			return false
		}
		for i := range x.Tiles * f.Set.Tile {
			at := x.At + i
			if at < 50+f.Set.Journal || at >= f.Set.Sectors || taken[at] {
				return false
			}
			taken[at] = true
		}
	}
	return true
}

// setting is the next setting that is valid.
func (r *noise) setting() api.Setting {
	s := api.Setting{Frames: 8 + r.below(57), Tile: 1 + r.below(64)>>r.below(7), Fan: 2 + r.below(15), Fused: r.below(2) == 0, Journal: 8 + r.below(1017)>>r.below(10)}
	s.Sectors = 50 + s.Journal + r.below(4096-50-s.Journal+1)>>r.below(4)
	return s
}

// shape is the next shape that is valid.
func (r *noise) shape() []int {
	for {
		var shape []int
		for range r.below(5) {
			shape = append(shape, r.below(4097)>>r.below(13))
		}
		if countOf(shape) >= 0 {
			return shape
		}
	}
}

// name is the next name, which is greater than another one: its first letter comes behind that one's.
func (r *noise) name(first int) string {
	name := letters[first : first+1]
	for range r.below(12) {
		name += one(r, "a", "Z", "0", "9", "_", "m")
	}
	return name
}

// folder is the next folder that is valid: as many files as there is room for, up to some number.
func (r *noise) folder() api.Folder {
	f := api.Folder{N: 1 + r.next()>>r.below(64), Set: r.setting(), Done: r.below(1001), State: r.below(3), Len: r.below(65537), Sum: uint32(r.next())}
	if f.N == 0 {
		f.N = 1
	}
	if f.State == 2 {
		f.Err = api.Errno(1 + r.below(999))
	}
	f.Next = int64(r.next()>>1>>r.below(56)) + 50
	at := 50 + f.Set.Journal
	for i := range r.below(41) >> r.below(6) {
		x := api.Entry{Name: r.name(i), No: f.Next - 1 - int64((11*i)%41), Kind: 1 + r.below(2), Shape: r.shape()}
		x.Tiles = tilesOf(x.Shape, f.Set.Tile)
		if start := at + r.below(3); x.Tiles > 0 {
			x.At, at = start, start+x.Tiles*f.Set.Tile
		}
		if at > f.Set.Sectors {
			break
		}
		f.Entries = append(f.Entries, x)
	}
	for range len(f.Entries) { // the places need not rise as the names do
		i, j := r.below(len(f.Entries)), r.below(len(f.Entries))
		f.Entries[i].Name, f.Entries[j].Name = f.Entries[j].Name, f.Entries[i].Name
		f.Entries[i], f.Entries[j] = f.Entries[j], f.Entries[i]
	}
	return f
}

// number changes a number a little, or much.
func (r *noise) number(n int) int {
	switch r.below(4) {
	case 0:
		return n + 1
	case 1:
		return n - 1
	case 2:
		return n + r.below(7) - 3
	}
	return one(r, math.MinInt, -1, 0, 1, 2, 3, 8, 40, 60, 64, 4095, 4096, 65536, 1<<32+8, math.MaxInt)
}

// entry changes an entry in something.
func (r *noise) entry(x *api.Entry) {
	switch r.below(7) {
	case 0:
		x.Name = one(r, "", "a", "M", "zz", "a-", "_a", "9", "abcdefghijkl", "abcdefghijklm", x.Name+"a", x.Name+"?")
	case 1:
		x.No = int64(r.number(int(x.No)))
	case 2:
		x.Kind = r.number(x.Kind)
	case 3:
		x.Shape = r.shape()
	case 4:
		x.Shape = append(x.Shape, one(r, 1, 1, 1, 0, -1, 4097))
	case 5:
		x.At = r.number(x.At)
	case 6:
		x.Tiles = r.number(x.Tiles)
	}
}

// change changes a folder in something.
func (r *noise) change(f *api.Folder) {
	fields := []*int{&f.Set.Frames, &f.Set.Tile, &f.Set.Fan, &f.Set.Journal, &f.Set.Sectors, &f.Done, &f.State, &f.Len}
	switch r.below(6) {
	case 0:
		field := one(r, fields...)
		*field = r.number(*field)
	case 1:
		f.Err = api.Errno(r.number(int(f.Err)))
	case 2:
		f.Next = int64(r.number(int(f.Next)))
	case 3:
		f.N = one(r, 0, 1, f.N+1)
	default:
		if len(f.Entries) > 0 {
			r.entry(&f.Entries[r.below(len(f.Entries))])
		}
	}
}

// Check holds with the chapter's words, wherever a folder is changed.
func TestCheckOfManyFolders(t *testing.T) {
	r := noise(3)
	good, bad := 0, 0
	for range 40_000 {
		f := r.folder()
		if !valid(f) {
			t.Fatalf("the test itself makes %v", f)
		}
		for range r.below(3) {
			r.change(&f)
		}
		asked := api.ErrFolder
		if valid(f) {
			asked = api.OK
			good++
		} else {
			bad++
		}
		if got := folder.Check(f); got != asked {
			t.Fatalf("Check(%v): error %d, want %d", f, got, asked)
		}
		if got := folder.CheckSetting(f.Set) == api.OK; got != validSetting(f.Set) {
			t.Fatalf("CheckSetting(%v) is %v", f.Set, got)
		}
		if asked == api.OK {
			accepted(t, "a folder", f)
		}
	}
	if good < 5000 || bad < 5000 {
		t.Errorf("%d were valid, %d were not", good, bad)
	}
}
