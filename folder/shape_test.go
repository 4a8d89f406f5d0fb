package folder_test

import (
	"math"
	"math/big"
	"testing"

	"quadrat/api"
	"quadrat/folder"
)

// most is as many elements as a tile of so many sectors has, as chapter 5 words it.
func most(sectors int) int { return (128*sectors - 24) / 8 }

// countOf is a shape's count, worked out with numbers that are never too great; -1 if the shape is not valid.
func countOf(shape []int) int {
	product := big.NewInt(1)
	for _, n := range shape {
		if n < 0 || n > 4096 {
			return -1
		}
		product.Mul(product, big.NewInt(int64(n)))
	}
	if len(shape) > 4 || product.Cmp(big.NewInt(4096)) > 0 {
		return -1
	}
	return int(product.Int64())
}

// tilesOf is how many tiles a shape asks for, counted one by one.
func tilesOf(shape []int, sectors int) int {
	left := countOf(shape)
	if left < 0 || sectors < 1 || sectors > 64 {
		return -1
	}
	tiles := 0
	for ; left > 0; left -= most(sectors) {
		tiles++
	}
	return tiles
}

// counts fails unless a shape has that count, and asks for as many tiles as that takes.
func counts(t *testing.T, shape []int, asked int) {
	t.Helper()
	if countOf(shape) != asked {
		t.Fatalf("the test itself has %d for %v, want %d", countOf(shape), shape, asked)
	}
	if got := folder.Count(shape); got != asked {
		t.Errorf("Count(%v) is %d, want %d", shape, got, asked)
	}
	for _, sectors := range []int{-1, 0, 1, 2, 3, 63, 64, 65, 1 << 20, math.MaxInt, math.MinInt} {
		if got := folder.Tiles(shape, sectors); got != tilesOf(shape, sectors) {
			t.Errorf("Tiles(%v, %d) is %d, want %d", shape, sectors, got, tilesOf(shape, sectors))
		}
	}
}

// The chapter's examples.
func TestExamplesOfShapes(t *testing.T) {
	counts(t, []int{2, 3}, 6)
	counts(t, nil, 1)
	counts(t, []int{}, 1)
	counts(t, []int{65, 64}, -1)
	counts(t, []int{-1}, -1)
	for _, c := range []struct {
		shape         []int
		sectors, want int
	}{{[]int{2, 7}, 1, 2}, {[]int{13}, 1, 1}, {[]int{0}, 1, 0}} {
		if got := folder.Tiles(c.shape, c.sectors); got != c.want {
			t.Errorf("Tiles(%v, %d) is %d, want %d", c.shape, c.sectors, got, c.want)
		}
	}
}

func TestCounts(t *testing.T) {
	for n := 0; n <= 4096; n++ {
		counts(t, []int{n}, n)
	}
	for _, shape := range [][]int{{4096, 1}, {1, 4096, 1, 1}, {64, 64}, {2, 2048}, {8, 8, 8, 8}, {1, 1, 1, 4096}, {16, 1, 16, 16}} {
		counts(t, shape, 4096)
	}
	for _, shape := range [][]int{{0}, {0, 0, 0, 0}, {0, 4096, 4096, 4096}, {4096, 4096, 4096, 0}, {4096, 4096, 0}, {4096, 0, 4096}, {1, 0}, {64, 65, 0}} {
		counts(t, shape, 0)
	}
	counts(t, []int{4095, 1}, 4095)
	counts(t, []int{2, 3, 4, 5}, 120)
	counts(t, []int{1, 1, 1, 1}, 1)
}

func TestShapesThatMayNotBe(t *testing.T) {
	for _, shape := range [][]int{
		{4097}, {-1}, {-4096}, {1, -1}, {-1, -1}, {0, -1}, {-1, 0}, {0, 4097}, {4097, 0}, {4096, 2}, {2, 4096}, {4096, 4096, 4096, 4096},
		{64, 65}, {17, 241}, {8, 8, 8, 9}, {1, 1, 1, 1, 1}, {0, 0, 0, 0, 0}, {2, 0, 2, 2, 2, 2}, {1, 1, 1, 1, -1},
		{1 << 32, 1 << 32}, {1 << 16, 1 << 16, 1 << 16, 1 << 16}, {1 << 62, 4}, {1 << 62, 4, 0}, {0, 1 << 62}, {1 << 63 / 2, 2},
		{math.MaxInt}, {math.MinInt}, {math.MinInt, -1}, {math.MinInt, 2}, {math.MaxInt, math.MaxInt}, {1<<32 + 1}, {1 << 32}, {-1, -4096}, {1 << 61, 8, 1},
	} {
		counts(t, shape, -1)
	}
	counts(t, make([]int, 1000), -1)
	counts(t, make([]int, 100_000), -1)
}

func TestTilesOfAllCounts(t *testing.T) {
	for sectors := 1; sectors <= 64; sectors++ {
		for _, full := range []int{1, 2, 3, 4096 / most(sectors)} {
			n := full * most(sectors)
			for _, c := range []struct{ count, want int }{{n - 1, full}, {n, full}, {n + 1, full + 1}} {
				if c.count > 4096 {
					continue
				}
				if got := folder.Tiles([]int{c.count}, sectors); got != c.want {
					t.Errorf("Tiles of %d in %d sectors: %d, want %d", c.count, sectors, got, c.want)
				}
			}
		}
		for count := 0; count <= 4096; count++ {
			if got := folder.Tiles([]int{count}, sectors); got != tilesOf([]int{count}, sectors) {
				t.Fatalf("Tiles of %d in %d sectors: %d", count, sectors, got)
			}
		}
	}
}

func TestTilesOfSectorsThatMayNotBe(t *testing.T) {
	for _, sectors := range []int{0, -1, -64, 65, 128, 1 << 32, 1<<32 + 1, 1 << 60, math.MaxInt, math.MinInt} {
		for _, shape := range [][]int{nil, {0}, {1}, {13}, {4096}, {4097}} {
			if got := folder.Tiles(shape, sectors); got != -1 {
				t.Errorf("Tiles(%v, %d) is %d", shape, sectors, got)
			}
		}
	}
}

// shaped is a bare folder with one file of that shape, as far as it may be placed at all.
func shaped(set api.Setting, shape []int, tiles int) api.Folder {
	x := api.Entry{Name: "a", No: 1, Kind: api.KindNum, Shape: shape, Tiles: tiles}
	if tiles != 0 {
		x.At = 50 + set.Journal
	}
	return api.Folder{N: 1, Set: set, Entries: []api.Entry{x}, Next: 2}
}

func TestEntriesHaveTheTilesTheyAskFor(t *testing.T) {
	for sectors := 1; sectors <= 64; sectors++ {
		set := api.Setting{Frames: 8, Tile: sectors, Fan: 2, Journal: 8, Sectors: 4096}
		for _, shape := range [][]int{nil, {0}, {1}, {most(sectors) - 1}, {most(sectors)}, {most(sectors) + 1}, {2 * most(sectors)}, {2, most(sectors), 1}, {4096}, {8, 8, 8, 8}, {5, 0, 5}} {
			tiles := tilesOf(shape, sectors)
			if tiles < 0 {
				continue
			}
			accepted(t, "the right number of tiles", shaped(set, shape, tiles))
			barred(t, "a tile more", shaped(set, shape, tiles+1))
			barred(t, "a tile less", shaped(set, shape, tiles-1))
			barred(t, "less than none", shaped(set, shape, -tiles-1))
		}
	}
}

func TestEntriesOfShapesThatMayNotBe(t *testing.T) {
	for _, shape := range [][]int{{4097}, {-1}, {64, 65}, {1, 1, 1, 1, 1}, {0, 0, 0, 0, 0}, {0, 4097}, {-1, 0}, {1 << 32, 1 << 32}, make([]int, 255)} {
		for tiles := -2; tiles <= 3; tiles++ {
			barred(t, "a shape that may not be", shaped(setting(), shape, tiles))
			f := shaped(setting(), shape, tiles)
			f.Entries[0].At = 0
			barred(t, "a shape that may not be, at 0", f)
		}
	}
}
