package pool_test

import (
	"fmt"
	"math"
	"testing"

	"quadrat/api"
)

func TestElementsOfATileThatIsNotPinned(t *testing.T) {
	x := made(t, 2)
	x.pin(t, 1)
	x.fresh(t, of(2, 7, 8))
	for _, k := range others() {
		x.denies(t, "not resident", k)
	}
	x.unpin(t, 1, 2)
	x.denies(t, "resident", key(1))
	x.denies(t, "resident", key(2))
	x.pin(t, 3)
	x.denies(t, "evicted", key(1))
	x.denies(t, "still resident", key(2))
	x.pin(t, 2)
	x.holds(t, "nothing was set", 2, 7, 8)
}

// What Set was denied made no tile dirty.
func TestSetThatIsDeniedLeavesATileClean(t *testing.T) {
	x := made(t, 1)
	x.visit(t, 1)
	x.denies(t, "not pinned", key(1))
	x.pin(t, 1)
	x.outside(t, "beyond", key(1), 3)
	x.outside(t, "below", key(1), -1)
	want(t, "Clean", x.Clean(key(1)), api.OK)
	x.called(t, "all that", "load 5.1")
	x.set(t, 1, 0, 7, 2)
	x.rejects(t, "with a greater number", api.ErrPool, func() api.Errno { return x.Set(key(1), 3, 9, 1000) })
	want(t, "Clean", x.Clean(key(1)), api.OK)
	x.called(t, "the number stays", "ready 2", "store 5.1 [7 11 12]")
}

func TestElementsOfAPinnedTile(t *testing.T) {
	x := made(t, 2)
	x.pin(t, 1)
	x.fresh(t, of(2, 7, 8, 9, 10))
	x.holds(t, "loaded", 1, 10, 11, 12)
	x.holds(t, "new", 2, 7, 8, 9, 10)
	x.stays(t, "Set", func() {
		x.set(t, 1, 0, -1, 0)
		x.set(t, 1, 2, math.MinInt64, 3)
		x.set(t, 2, 3, math.MaxInt64, 1)
		x.set(t, 2, 1, 0, 2)
	})
	x.holds(t, "set", 1, -1, 11, math.MinInt64)
	x.holds(t, "set", 2, 7, 0, 9, math.MaxInt64)
	x.set(t, 1, 0, -1, 0)
	x.set(t, 1, 0, 5, 0)
	x.holds(t, "set again", 1, 5, 11, math.MinInt64)
	x.pin(t, 1, 1)
	x.holds(t, "pinned more often", 1, 5, 11, math.MinInt64)
	x.unpin(t, 1, 1)
	x.holds(t, "still pinned", 1, 5, 11, math.MinInt64)
	x.called(t, "all that", "load 5.1")
}

func TestElementsAtTheEdges(t *testing.T) {
	for _, count := range []int{0, 1, 2, 13, 29, 1021, 4096} {
		x := made(t, 1)
		x.fresh(t, of(1, make([]int64, count)...))
		for _, i := range []int{count, count + 1, count + 100, -1, -2, -count - 1, math.MaxInt, math.MaxInt32, 1 << 32, 1<<32 + 1, math.MinInt, math.MinInt32, -1 << 32} {
			x.outside(t, fmt.Sprint(count, " elements"), key(1), i)
		}
		if count > 0 {
			asked := make([]int64, count)
			asked[0], asked[count-1] = 5, 6
			x.set(t, 1, 0, 5, 0)
			x.set(t, 1, count-1, 6, 0)
			x.holds(t, fmt.Sprint(count, " elements"), 1, asked...)
		}
	}
}

func TestElementsOfATileWithoutElements(t *testing.T) {
	x := made(t, 2)
	x.fresh(t, of(1))
	x.b.load = func(api.Key) (api.Tile, api.Errno) { return of(2), api.OK }
	x.pin(t, 2)
	for _, no := range []int{1, 2} {
		for _, i := range []int{-1, 0, 1} {
			x.outside(t, "none", key(no), i)
		}
		x.holds(t, "none", no)
	}
}

// A tile is answered whole, with its kind.
func TestTile(t *testing.T) {
	x := made(t, 3)
	for _, one := range []api.Tile{of(1, 7, 8), {File: 9, No: 4095, Kind: api.KindChar, Elems: []int64{97, 98}}, {File: -3, No: -4, Kind: 5}} {
		x.fresh(t, one)
		x.stays(t, "Tile", func() {
			if got, e := x.Tile(api.Key{File: one.File, No: one.No}); e != api.OK || !same(got, one) {
				t.Errorf("Tile: error %d and %v, want %v", e, got, one)
			}
		})
	}
}

// numbered fails unless a tile that was set with these numbers is written back with that one.
func numbered(t *testing.T, asked int, numbers ...int) {
	t.Helper()
	x := made(t, 2)
	x.pin(t, 1)
	x.fresh(t, of(2, 0))
	x.called(t, "the first ones", "load 5.1")
	for _, number := range numbers {
		x.set(t, 1, 0, 9, number)
		x.set(t, 2, 0, 9, number)
	}
	want(t, "Clean", x.Clean(key(1)), api.OK)
	want(t, "Clean", x.Clean(key(2)), api.OK)
	ready := fmt.Sprint("ready ", asked)
	x.called(t, fmt.Sprint(numbers), ready, "store 5.1 [9 11 12]", ready, "store 5.2 [9]")
}

func TestNumbers(t *testing.T) {
	numbered(t, 0, 0)
	numbered(t, 1, 1)
	numbered(t, 7, 7)
	numbered(t, 7, 7, 7)
	numbered(t, 7, 7, 6)
	numbered(t, 7, 7, 0)
	numbered(t, 7, 7, -1)
	numbered(t, 8, 7, 8)
	numbered(t, 9, 7, 9, 8, 3)
	numbered(t, 5, 0, 5)
	numbered(t, 0, -1)
	numbered(t, 0, math.MinInt)
	numbered(t, 0, -5, -3)
	numbered(t, 2, -5, 2, -3)
	numbered(t, math.MaxInt, 3, math.MaxInt, math.MinInt)
}

// Each frame has a number of its own.
func TestNumbersAreApart(t *testing.T) {
	x := made(t, 3)
	x.pin(t, 1, 2, 3)
	x.set(t, 1, 0, 9, 8)
	x.set(t, 2, 0, 9, 4)
	x.unpin(t, 1, 2, 3)
	x.b.calls = nil
	x.pin(t, 4, 5, 6)
	x.called(t, "evicted", "ready 8", "store 5.1 [9 11 12]", "load 5.4", "ready 4", "store 5.2 [9 21 22]", "load 5.5", "load 5.6")
}

// Set makes a tile dirty also if the element is what it was.
func TestSetOfTheSame(t *testing.T) {
	x := made(t, 1)
	x.pin(t, 1)
	x.set(t, 1, 1, 11, 3)
	want(t, "Clean", x.Clean(key(1)), api.OK)
	x.called(t, "all that", "load 5.1", "ready 3", "store 5.1 [10 11 12]")
}

// Get and Tile make no tile dirty.
func TestGetAndTileLeaveATileClean(t *testing.T) {
	x := made(t, 1)
	x.pin(t, 1)
	x.holds(t, "loaded", 1, 10, 11, 12)
	want(t, "Clean", x.Clean(key(1)), api.OK)
	x.unpin(t, 1)
	x.pin(t, 2)
	x.called(t, "all that", "load 5.1", "load 5.2")
}
