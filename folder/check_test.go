package folder_test

import (
	"math"
	"testing"

	"quadrat/api"
	"quadrat/folder"
)

func TestPlainFolders(t *testing.T) {
	accepted(t, "three files", plain())
	accepted(t, "none", bare(1))
	for n := uint64(1); n < 20; n++ {
		accepted(t, "of a number", of(n))
		accepted(t, "of a number", alike(n))
	}
	barred(t, "the zero folder", api.Folder{})
}

func TestNumbersOfFolders(t *testing.T) {
	barred(t, "N of 0", bare(0))
	barred(t, "N of 0", turned(func(f *api.Folder) { f.N = 0 }))
	for bit := range 64 {
		accepted(t, "N", bare(1<<bit))
		accepted(t, "N", turned(func(f *api.Folder) { f.N = math.MaxUint64 >> bit }))
	}
}

func TestNext(t *testing.T) {
	for _, next := range []int64{1, 2, 255, 256, 1 << 32, math.MaxInt64 - 1, math.MaxInt64} {
		f := bare(1)
		f.Next = next
		accepted(t, "Next", f)
	}
	for _, next := range []int64{0, -1, -256, math.MinInt64, math.MinInt64 + 1} {
		f := bare(1)
		f.Next = next
		barred(t, "Next below 1", f)
		barred(t, "Next below 1", turned(func(f *api.Folder) { f.Next = next }))
	}
}

func TestStatements(t *testing.T) {
	for n := -3; n <= 1003; n++ {
		f := turned(func(f *api.Folder) { f.Done = n })
		if n >= 0 && n <= 1000 {
			accepted(t, "Done", f)
		} else {
			barred(t, "Done", f)
		}
	}
	for _, n := range append(far(), 65535, 1<<16, 1<<16+5) {
		barred(t, "Done", turned(func(f *api.Folder) { f.Done = n }))
	}
}

func TestStatesAndErrors(t *testing.T) {
	errs := []api.Errno{-1, 0, 1, 2, 5, 70, 255, 256, 998, 999, 1000, 1001, 65535, 65536, 65537, 1<<32 + 1, math.MaxInt, math.MinInt, math.MinInt + 1}
	for _, state := range []int{-1, 0, 1, 2, 3, 4, 255, 256, 257, 258, 1 << 32, 1<<32 + 2, math.MaxInt, math.MinInt} {
		for _, e := range errs {
			f := turned(func(f *api.Folder) { f.State, f.Err = state, e })
			running := (state == 0 || state == 1) && e == 0
			failed := state == 2 && e >= 1 && e <= 999
			if running || failed {
				accepted(t, "State and Err", f)
			} else {
				barred(t, "State and Err", f)
			}
		}
	}
	for e := range api.Errno(1002) {
		f := turned(func(f *api.Folder) { f.State, f.Err = 2, e })
		if got := folder.Check(f) == api.OK; got != (e >= 1 && e <= 999) {
			t.Errorf("Failed by %d: valid is %v", e, got)
		}
	}
}

func TestLengthsOfSources(t *testing.T) {
	for _, n := range []int{0, 1, 255, 256, 65534, 65535, 65536} {
		accepted(t, "Len", turned(func(f *api.Folder) { f.Len = n }))
	}
	for _, n := range []int{-1, -65536, 65537, 65538, 1 << 17, 1<<31 - 1, 1 << 31, 1<<32 - 1, 1 << 32, 1<<32 + 5, math.MaxInt, math.MinInt, math.MinInt + 5} {
		barred(t, "Len", turned(func(f *api.Folder) { f.Len = n }))
	}
}

func TestSums(t *testing.T) {
	for _, sum := range []uint32{0, 1, 255, 256, 1 << 16, 1<<31 - 1, 1 << 31, math.MaxUint32} {
		accepted(t, "Sum", turned(func(f *api.Folder) { f.Sum = sum }))
		f := bare(1)
		f.Sum = sum
		accepted(t, "Sum", f)
	}
}

// A setting that is not valid makes no folder valid, whatever its entries are.
func TestFoldersOfSettings(t *testing.T) {
	for _, change := range []func(s *api.Setting){
		func(s *api.Setting) { *s = api.Setting{} },
		func(s *api.Setting) { s.Frames = 7 },
		func(s *api.Setting) { s.Tile = 0 },
		func(s *api.Setting) { s.Tile = 65 },
		func(s *api.Setting) { s.Tile = -2 },
		func(s *api.Setting) { s.Fan = 17 },
		func(s *api.Setting) { s.Journal = 7 },
		func(s *api.Setting) { s.Sectors = 4097 },
	} {
		barred(t, "a setting", turned(func(f *api.Folder) { change(&f.Set) }))
		f := bare(1)
		change(&f.Set)
		barred(t, "a setting, and no files", f)
	}
}
