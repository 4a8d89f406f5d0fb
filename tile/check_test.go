package tile_test

import (
	"math"
	"slices"
	"testing"

	"quadrat/api"
)

// plain is a valid tile with a few elements, which are numbers and characters at once.
func plain() api.Tile {
	return api.Tile{File: 7, No: 3, Kind: api.KindNum, Elems: []int64{5, 0, 66}}
}

func TestSectors(t *testing.T) {
	for sectors := 1; sectors <= 64; sectors++ {
		accepted(t, "sectors", plain(), sectors)
	}
	for _, sectors := range strange() {
		barred(t, "sectors", plain(), sectors)
		barred(t, "sectors, no element", api.Tile{File: 1, Kind: api.KindNum}, sectors)
		barred(t, "sectors, the zero tile", api.Tile{}, sectors)
	}
}

func TestFile(t *testing.T) {
	for _, kind := range []int{api.KindNum, api.KindChar} {
		one := plain()
		one.Kind = kind
		for _, file := range []int64{1, 2, 255, 256, 1 << 31, 1 << 32, 1<<56 + 1, math.MaxInt64 - 1, math.MaxInt64} {
			one.File = file
			accepted(t, "file", one, 1)
			accepted(t, "file", one, 64)
		}
		for _, file := range []int64{0, -1, -2, -256, math.MinInt32, math.MinInt64, math.MinInt64 + 1} {
			one.File = file
			barred(t, "file", one, 1)
			barred(t, "file", one, 64)
		}
	}
}

func TestNo(t *testing.T) {
	one := plain()
	for _, no := range []int{0, 1, 255, 256, 4094, 4095} {
		one.No = no
		accepted(t, "no", one, 1)
		accepted(t, "no", one, 64)
	}
	for _, no := range []int{-1, -2, -4095, -4096, 4096, 4097, 1 << 16, 1 << 31, 1 << 32, 1<<32 + 3, 1<<40 + 4095, -1 << 32, math.MaxInt, math.MinInt} {
		one.No = no
		barred(t, "no", one, 1)
		barred(t, "no", one, 64)
	}
}

func TestKind(t *testing.T) {
	for _, elems := range [][]int64{nil, {65}} {
		for _, kind := range []int{1, 2} {
			accepted(t, "kind", api.Tile{File: 1, No: 0, Kind: kind, Elems: elems}, 1)
		}
		for _, kind := range []int{0, 3, 4, -1, -2, 255, 256, 257, 258, 1<<32 + 1, 1<<32 + 2, math.MaxInt, math.MinInt, math.MinInt + 1, math.MinInt + 2} {
			barred(t, "kind", api.Tile{File: 1, No: 0, Kind: kind, Elems: elems}, 1)
		}
	}
}

func TestNumberOfElements(t *testing.T) {
	for _, kind := range []int{api.KindNum, api.KindChar} {
		for sectors := 1; sectors <= 64; sectors++ {
			full := most(sectors)
			one := api.Tile{File: 9, No: 1, Kind: kind}
			accepted(t, "nil", one, sectors)
			one.Elems = []int64{}
			accepted(t, "no element", one, sectors)
			for _, n := range []int{1, full - 1, full} {
				one.Elems = slices.Repeat([]int64{77}, n)
				accepted(t, "elements", one, sectors)
			}
			for _, n := range []int{full + 1, full + 2, full + 16, 2 * full, 5000} {
				one.Elems = slices.Repeat([]int64{77}, n)
				barred(t, "too many elements", one, sectors)
				one.Elems = make([]int64, n)
				barred(t, "too many zeros", one, sectors)
			}
		}
	}
}

// What is too much for some sectors is not for more of them.
func TestElementsAreHeldAgainstTheSectors(t *testing.T) {
	for sectors := 1; sectors < 64; sectors++ {
		one := api.Tile{File: 9, No: 1, Kind: api.KindNum, Elems: numbers(most(sectors) + 1)}
		barred(t, "too many elements", one, sectors)
		accepted(t, "elements", one, sectors+1)
	}
}

func TestCharacters(t *testing.T) {
	for _, n := range []int{1, 2, 13} {
		for at := range n {
			one := api.Tile{File: 4, No: 2, Kind: api.KindChar, Elems: slices.Repeat([]int64{97}, n)}
			for _, x := range []int64{0, 1, 97, 255, 256, 0xD7FF, 0xD800, 0xDFFF, 0xE000, 0xFFFD, 0xFFFF, 0x10000, 0x10FFFE, 0x10FFFF} {
				one.Elems[at] = x
				accepted(t, "a character", one, 1)
			}
			for _, x := range []int64{-1, -2, -97, 0x110000, 0x110001, 0x7FFFFFFF, 0xFFFFFFFF, 1 << 32, 1<<32 + 97, -1<<32 + 97, math.MaxInt64, math.MinInt64, math.MinInt64 + 97} {
				one.Elems[at] = x
				barred(t, "no character", one, 1)
				one.Kind = api.KindNum
				accepted(t, "a number", one, 1)
				one.Kind = api.KindChar
			}
		}
	}
}

func TestNumbers(t *testing.T) {
	extremes := []int64{math.MinInt64, math.MaxInt64, math.MinInt64 + 1, math.MaxInt64 - 1, -1, 0, 1, math.MinInt32, math.MaxInt32, math.MaxUint32, 1 << 32, 0x0102030405060708, -0x0102030405060708}
	accepted(t, "all of them", api.Tile{File: 1, No: 0, Kind: api.KindNum, Elems: extremes}, 1)
	for _, x := range extremes {
		accepted(t, "one of them", api.Tile{File: 1, No: 0, Kind: api.KindNum, Elems: []int64{x}}, 1)
		accepted(t, "as many as can be", api.Tile{File: 1, No: 0, Kind: api.KindNum, Elems: slices.Repeat([]int64{x}, 1021)}, 64)
	}
}

func TestTilesWithSeveralFaults(t *testing.T) {
	barred(t, "the zero tile", api.Tile{}, 1)
	barred(t, "the zero tile", api.Tile{}, 0)
	barred(t, "all of it", api.Tile{File: -1, No: -1, Kind: -1, Elems: make([]int64, 14)}, -1)
	barred(t, "numbers of no kind", api.Tile{File: 1, No: 0, Kind: 3, Elems: []int64{-1}}, 1)
	barred(t, "too many, and no characters", api.Tile{File: 1, No: 0, Kind: api.KindChar, Elems: numbers(14)}, 1)
}
