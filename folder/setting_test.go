package folder_test

import (
	"math"
	"testing"

	"quadrat/api"
	"quadrat/folder"
)

// allows fails unless a setting is valid, or not valid, as it is asked; and so is a folder that has it and no entries.
func allows(t *testing.T, what string, s api.Setting, asked bool) {
	t.Helper()
	f := bare(1)
	f.Set = s
	if asked {
		accepted(t, what, f)
		return
	}
	want(t, what+": CheckSetting", folder.CheckSetting(s), api.ErrFolder)
	barred(t, what, f)
}

// far are numbers that no setting has, some of which are like some that it has once they are cut to fewer bits.
func far() []int {
	return []int{-1, math.MinInt, math.MinInt + 9, math.MaxInt, math.MaxInt - 9, 1<<16 + 9, 1<<32 + 9, -1 << 16, 1 << 32, -1<<32 + 9}
}

// tries fails unless a number of a setting is allowed just from the least to the greatest one.
func tries(t *testing.T, what string, least, most int, with func(n int) api.Setting) {
	t.Helper()
	for n := least - 3; n <= most+3; n++ {
		allows(t, what, with(n), n >= least && n <= most)
	}
	for _, n := range append(far(), 0) {
		allows(t, what, with(n), n >= least && n <= most)
	}
}

func TestFrames(t *testing.T) {
	tries(t, "Frames", 8, 64, func(n int) api.Setting {
		s := setting()
		s.Frames = n
		return s
	})
}

func TestTile(t *testing.T) {
	tries(t, "Tile", 1, 64, func(n int) api.Setting {
		s := setting()
		s.Tile = n
		return s
	})
}

func TestFan(t *testing.T) {
	tries(t, "Fan", 2, 16, func(n int) api.Setting {
		s := setting()
		s.Fan = n
		return s
	})
}

func TestJournal(t *testing.T) {
	tries(t, "Journal", 8, 1024, func(n int) api.Setting {
		s := setting()
		s.Journal, s.Sectors = n, 4096
		return s
	})
}

func TestSectors(t *testing.T) {
	for _, journal := range []int{8, 9, 10, 1023, 1024} {
		for _, n := range append(far(), 0, 49, 50, 51, 4095, 4096, 4097, 4098, 8192, 65535, 65536) {
			allows(t, "Sectors", api.Setting{Frames: 8, Tile: 1, Fan: 2, Journal: journal, Sectors: n}, n == 4095 || n == 4096)
		}
		for n := 50 + journal - 3; n < 50+journal+3; n++ {
			allows(t, "Sectors", api.Setting{Frames: 8, Tile: 1, Fan: 2, Journal: journal, Sectors: n}, n >= 50+journal)
		}
	}
}

func TestLeastAndGreatestSettings(t *testing.T) {
	for _, fused := range []bool{false, true} {
		allows(t, "the least", api.Setting{Frames: 8, Tile: 1, Fan: 2, Fused: fused, Journal: 8, Sectors: 58}, true)
		allows(t, "the greatest", api.Setting{Frames: 64, Tile: 64, Fan: 16, Fused: fused, Journal: 1024, Sectors: 4096}, true)
		allows(t, "of no data area", api.Setting{Frames: 64, Tile: 64, Fan: 16, Fused: fused, Journal: 1024, Sectors: 1074}, true)
		allows(t, "the zero one", api.Setting{Fused: fused}, false)
	}
	if e := folder.CheckSetting(api.Setting{Frames: 8, Tile: 1, Fan: 2, Journal: math.MaxInt, Sectors: 58}); e != api.ErrFolder {
		t.Errorf("a journal that is too great to be added to: error %d", e)
	}
}
