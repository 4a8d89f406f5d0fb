package folder_test

import (
	"math"
	"strings"
	"testing"

	"quadrat/api"
)

// named is a bare folder with one file of that name.
func named(name string) api.Folder {
	f := bare(1)
	f.Next = 2
	f.Entries = []api.Entry{{Name: name, No: 1, Kind: api.KindNum, At: 60, Tiles: 1}}
	return f
}

func TestLengthsOfNames(t *testing.T) {
	barred(t, "no byte", named(""))
	for n := 1; n <= 12; n++ {
		accepted(t, "1 to 12 bytes", named(strings.Repeat("x", n)))
	}
	for _, n := range []int{13, 14, 24, 255, 256, 257, 268, 65535, 65536, 65537, 65548} {
		barred(t, "more than 12 bytes", named(strings.Repeat("x", n)))
	}
	accepted(t, "letters, digits and underscores", named("aZ_9_0zA__mM"))
	accepted(t, "ends with a digit", named("a0"))
	accepted(t, "ends with an underscore", named("a_"))
}

func TestBytesOfNames(t *testing.T) {
	const first = letters
	const later = letters + "0123456789_"
	for x := range 256 {
		c := string([]byte{byte(x)})
		for _, place := range []struct{ before, behind, allowed string }{{"", "", first}, {"", "abc", first}, {"a", "", later}, {"a", "b", later}, {"abcdefghijk", "", later}} {
			f := named(place.before + c + place.behind)
			if strings.Contains(place.allowed, c) {
				accepted(t, "a name", f)
			} else {
				barred(t, "a name", f)
			}
		}
	}
	for _, name := range []string{"é", "aé", "a⍳", "⍵", "a b", " a", "a ", "a\x00", "\x00", "a.b", "a-b", "a\n"} {
		barred(t, "a name", named(name))
	}
}

func TestNumbersOfEntries(t *testing.T) {
	for _, no := range []int64{1, 2, 255, 256, 1 << 32, 1 << 62, math.MaxInt64 - 1} {
		f := named("a")
		f.Entries[0].No, f.Next = no, no+1
		accepted(t, "No", f)
		f.Next = math.MaxInt64
		accepted(t, "No", f)
		f.Next = no
		barred(t, "No that is Next", f)
		if no > 1 {
			f.Next = no - 1
			barred(t, "No beyond Next", f)
			f.Next = 1
			barred(t, "No beyond Next", f)
		}
	}
	for _, no := range []int64{0, -1, math.MinInt64, math.MinInt64 + 1} {
		f := named("a")
		f.Entries[0].No = no
		barred(t, "No below 1", f)
		f.Next = math.MaxInt64
		barred(t, "No below 1", f)
	}
	f := named("a")
	f.Entries[0].No, f.Next = math.MaxInt64, math.MaxInt64
	barred(t, "No that is Next", f)
}

func TestKinds(t *testing.T) {
	for _, kind := range []int{-1, 0, 1, 2, 3, 4, 255, 256, 257, 258, 1<<32 + 1, math.MaxInt, math.MinInt} {
		f := named("a")
		f.Entries[0].Kind = kind
		if kind == 1 || kind == 2 {
			accepted(t, "Kind", f)
		} else {
			barred(t, "Kind", f)
		}
	}
}

// TestPlaces lays an extent of each size at each place in and around the data area.
func TestPlaces(t *testing.T) {
	for _, set := range []api.Setting{
		{Frames: 8, Tile: 1, Fan: 2, Journal: 8, Sectors: 70},
		{Frames: 8, Tile: 2, Fan: 2, Journal: 10, Sectors: 70},
		{Frames: 8, Tile: 5, Fan: 2, Journal: 8, Sectors: 73},
	} {
		for tiles := 1; tiles*set.Tile <= set.Sectors-50-set.Journal+3; tiles++ {
			for at := -3; at <= set.Sectors+3; at++ {
				f := shaped(set, []int{tiles * most(set.Tile)}, tiles)
				f.Entries[0].At = at
				if at >= 50+set.Journal && at+tiles*set.Tile <= set.Sectors {
					accepted(t, "in the data area", f)
				} else {
					barred(t, "not in the data area", f)
				}
			}
		}
	}
}

func TestPlacesFarAway(t *testing.T) {
	for _, at := range []int{math.MinInt, math.MinInt + 60, math.MaxInt, math.MaxInt - 1, math.MaxInt - 60, -60, 1<<16 + 60, 1<<32 + 60, 4095, 4096, 4097} {
		for _, sectors := range []int{200, 4096} {
			f := named("a")
			f.Set.Sectors = sectors
			f.Entries[0].At = at
			barred(t, "far away", f)
		}
	}
	f := named("a")
	f.Set.Sectors, f.Entries[0].At = 4096, 4094
	accepted(t, "the last sectors of all", f)
}

// A data area that has no sectors, or too few, has room for files of no elements alone.
func TestNarrowDataAreas(t *testing.T) {
	for sectors := 58; sectors <= 64; sectors++ {
		set := api.Setting{Frames: 8, Tile: 4, Fan: 2, Journal: 8, Sectors: sectors}
		accepted(t, "no tile", shaped(set, []int{3, 0}, 0))
		for _, at := range []int{57, 58, 59, 60, 61} {
			f := shaped(set, nil, 1)
			f.Entries[0].At = at
			if at >= 58 && at+4 <= sectors {
				accepted(t, "a tile", f)
			} else {
				barred(t, "a tile", f)
			}
		}
	}
}

func TestPlacesOfNoTiles(t *testing.T) {
	for _, at := range []int{-1, 0, 1, 49, 59, 60, 61, 199, 200, 65535, 65536, math.MaxInt, math.MinInt} {
		for _, shape := range [][]int{{0}, {4096, 0}, {0, 0, 0, 0}} {
			f := named("a")
			f.Entries[0].Shape, f.Entries[0].Tiles, f.Entries[0].At = shape, 0, at
			if at == 0 {
				accepted(t, "no tiles", f)
			} else {
				barred(t, "no tiles", f)
			}
		}
	}
	f := named("a")
	f.Entries[0].At = 0
	barred(t, "At of 0 with tiles", f)
}

// pair is a bare folder of two files, the first of which has so many tiles, and the second one three.
func pair(at, tiles, other int) api.Folder {
	f := bare(1)
	f.Next = 3
	f.Entries = []api.Entry{
		{Name: "a", No: 1, Kind: api.KindNum, Shape: []int{tiles, 29}, At: at, Tiles: tiles},
		{Name: "b", No: 2, Kind: api.KindNum, Shape: []int{29, 3}, At: other, Tiles: 3},
	}
	return f
}

// TestTwoExtents lays an extent at each place around another one.
func TestTwoExtents(t *testing.T) {
	for tiles := 1; tiles <= 5; tiles++ {
		for at := 80; at <= 140; at++ {
			f := pair(at, tiles, 110)
			other := pair(110, 3, at)
			other.Entries[1].Tiles, other.Entries[1].Shape = tiles, []int{tiles, 29}
			if at+2*tiles <= 110 || at >= 116 {
				accepted(t, "apart", f)
				accepted(t, "apart", other)
			} else {
				barred(t, "a sector in common", f)
				barred(t, "a sector in common", other)
			}
		}
	}
}

// filled is a folder of that many files, which fill the data area and whose places are in another order than their names are: neighbours touch.
func filled(count int) api.Folder {
	f := bare(1)
	f.Set = api.Setting{Frames: 8, Tile: 3, Fan: 2, Journal: 9, Sectors: 59 + 3*count}
	f.Next = int64(count + 1)
	for i := range count {
		place := (53*i + 3) % count // 53 has no divisor in common with any count below it
		f.Entries = append(f.Entries, api.Entry{Name: letters[i : i+1], No: int64(count - i), Kind: api.KindChar, At: 59 + 3*place, Tiles: 1})
	}
	return f
}

func TestManyExtents(t *testing.T) {
	accepted(t, "all of them touch", filled(40))
	for i := range 40 {
		for _, by := range []int{-1, 1, -2, 2, -3, 3} {
			f := filled(40)
			f.Entries[i].At += by
			barred(t, "one of them is moved", f)
		}
		f := filled(40)
		f.Entries[i].At = f.Entries[(i+11)%40].At
		barred(t, "two of them have one place", f)
		f = filled(40)
		f.Entries[i].Shape, f.Entries[i].Tiles, f.Entries[i].At = []int{0}, 0, 0
		accepted(t, "one of them has none", f)
	}
}

// An extent within a great one, behind which another one begins, is found, too.
func TestExtentWithinAnother(t *testing.T) {
	for _, at := range []int{60, 62, 70, 80, 98, 100} {
		f := pair(60, 20, 110)
		f.Next = 4
		f.Entries = append(f.Entries, api.Entry{Name: "c", No: 3, Kind: api.KindNum, At: at, Tiles: 1})
		if at >= 100 {
			accepted(t, "behind it", f)
		} else {
			barred(t, "within it", f)
		}
	}
}

func TestSameNumbers(t *testing.T) {
	for i := range 40 {
		for _, j := range []int{0, 1, 19, 38, 39} {
			f := filled(40)
			f.Entries[i].No = f.Entries[j].No
			if i == j {
				accepted(t, "other numbers", f)
			} else {
				barred(t, "two with the same number", f)
			}
		}
	}
}

func TestOrderOfNames(t *testing.T) {
	for _, c := range []struct {
		one, two string
		rise     bool
	}{
		{"a", "b", true}, {"b", "a", false}, {"a", "a", false}, {"A", "a", true}, {"a", "A", false}, {"Z", "a", true}, {"a", "aa", true}, {"aa", "a", false},
		{"a9", "aA", true}, {"aZ", "a_", true}, {"a_", "aa", true}, {"a_", "aZ", false}, {"aa", "a_", false}, {"a0", "a00", true}, {"a10", "a9", true}, {"a9", "a10", false},
		{"abcdefghijkl", "abcdefghijkm", true}, {"abcdefghijkl", "abcdefghijkl", false}, {"abcdefghijkm", "abcdefghijkl", false},
	} {
		f := pair(60, 1, 70)
		f.Entries[0].Name, f.Entries[1].Name = c.one, c.two
		if c.rise {
			accepted(t, "names that rise", f)
		} else {
			barred(t, "names that do not rise", f)
		}
	}
	for i := range 39 {
		f := filled(40)
		f.Entries[i].Name, f.Entries[i+1].Name = f.Entries[i+1].Name, f.Entries[i].Name
		barred(t, "two names are exchanged", f)
		f = filled(40)
		f.Entries[i+1].Name = f.Entries[i].Name
		barred(t, "two names are the same", f)
	}
}

func TestNumbersOfFiles(t *testing.T) {
	for count := 0; count <= 40; count++ {
		accepted(t, "up to 40 files", filled(count))
	}
	for count := 41; count <= 52; count++ {
		barred(t, "more than 40 files", filled(count))
	}
	f := filled(40)
	f.Next = 42
	f.Entries = append(f.Entries, api.Entry{Name: "zero", No: 41, Kind: api.KindNum, Shape: []int{0}})
	barred(t, "41 files, one of which has no elements", f)
	f = bare(1)
	f.Next = 1000
	for i := range 300 {
		name := "n" + string([]byte{letters[i/52], letters[i%52]})
		f.Entries = append(f.Entries, api.Entry{Name: name, No: int64(i + 1), Kind: api.KindNum, Shape: []int{0}})
		if i == 255 {
			barred(t, "256 files", f)
		}
	}
	barred(t, "300 files", f)
}

// One entry that may not be is found wherever it stands.
func TestAnyEntry(t *testing.T) {
	for i := range 40 {
		for _, change := range []func(x *api.Entry){
			func(x *api.Entry) { x.Name = "" },
			func(x *api.Entry) { x.Name += "-" },
			func(x *api.Entry) { x.No = 0 },
			func(x *api.Entry) { x.No = 41 },
			func(x *api.Entry) { x.Kind = 0 },
			func(x *api.Entry) { x.Kind = 3 },
			func(x *api.Entry) { x.Shape = []int{0} },
			func(x *api.Entry) { x.Shape = []int{-1} },
			func(x *api.Entry) { x.Shape = []int{1, 1, 1, 1, 1} },
			func(x *api.Entry) { x.Tiles = 0 },
			func(x *api.Entry) { x.Tiles = 2 },
			func(x *api.Entry) { x.At = 0 },
			func(x *api.Entry) { x.At = 58 },
		} {
			f := filled(40)
			change(&f.Entries[i])
			barred(t, "one entry", f)
		}
	}
}
