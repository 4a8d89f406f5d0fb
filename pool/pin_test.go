package pool_test

import (
	"testing"

	"quadrat/api"
)

func TestPinOfAResidentTile(t *testing.T) {
	x := made(t, 2)
	x.pin(t, 1)
	x.called(t, "the first one", "load 5.1")
	x.set(t, 1, 0, 77, 4)
	for pins := 2; pins < 6; pins++ {
		x.pin(t, 1)
		x.has(t, "pinned again", pins, 1)
		x.holds(t, "pinned again", 1, 77, 11, 12)
	}
	x.unpin(t, 1, 1, 1, 1, 1)
	x.has(t, "unpinned", 0, 1)
	x.pin(t, 1)
	x.has(t, "pinned once more", 1, 1)
	x.holds(t, "pinned once more", 1, 77, 11, 12)
	x.called(t, "all that")
}

// A tile that is resident is pinned also if no frame could be freed.
func TestPinOfAResidentTileWithAllFramesPinned(t *testing.T) {
	x := made(t, 2)
	x.pin(t, 1, 2)
	x.pin(t, 1, 2, 1)
	x.has(t, "pinned", 5, 1, 2)
	x.called(t, "all that", "load 5.1", "load 5.2")
}

func TestPinWithAnEmptyFrame(t *testing.T) {
	x := made(t, 3)
	x.visit(t, 1)
	x.pin(t, 2)
	x.set(t, 2, 0, 77, 4)
	x.unpin(t, 2)
	x.called(t, "the first ones", "load 5.1", "load 5.2")
	x.pin(t, 3)
	x.called(t, "an empty frame is taken first", "load 5.3")
	x.has(t, "pinned", 1, 3, 2, 1)
	x.holds(t, "pinned", 3, 30, 31, 32)
}

func TestPinWithAnUnpinnedCleanFrame(t *testing.T) {
	x := made(t, 2)
	x.visit(t, 1)
	x.pin(t, 2)
	x.called(t, "the first ones", "load 5.1", "load 5.2")
	x.pin(t, 3)
	x.called(t, "a clean frame is not written back", "load 5.3")
	x.has(t, "pinned", 2, 3, 2)
	x.holds(t, "pinned", 3, 30, 31, 32)
	x.denies(t, "evicted", key(1))
}

func TestPinWithAnUnpinnedDirtyFrame(t *testing.T) {
	x := made(t, 2)
	x.pin(t, 1)
	x.set(t, 1, 1, 77, 4)
	x.unpin(t, 1)
	x.pin(t, 2)
	x.called(t, "the first ones", "load 5.1", "load 5.2")
	x.pin(t, 3)
	x.called(t, "written back ahead of the load", "ready 4", "store 5.1 [10 77 12]", "load 5.3")
	x.has(t, "pinned", 2, 3, 2)
	x.denies(t, "evicted", key(1))
	x.unpin(t, 3)
	x.pin(t, 1)
	x.called(t, "loaded again", "load 5.1")
	x.holds(t, "loaded again", 1, 10, 77, 12)
}

func TestPinWithAllFramesPinned(t *testing.T) {
	x := made(t, 2)
	x.pin(t, 1, 2, 1)
	x.set(t, 2, 0, 77, 4)
	for range 2 {
		x.rejects(t, "Pin", api.ErrBudget, func() api.Errno { return x.Pin(key(3)) })
	}
	x.unpin(t, 1)
	x.rejects(t, "Pin with a tile that is still pinned", api.ErrBudget, func() api.Errno { return x.Pin(key(3)) })
	x.holds(t, "one", 1, 10, 11, 12)
	x.holds(t, "the other one", 2, 77, 21, 22)
	x.denies(t, "not pinned", key(3))
}

// fails lets the backing store's Load answer that for tile 3, and fails unless Pin answers the error that is asked for.
func (x bed) fails(t *testing.T, what string, one api.Tile, e, asked api.Errno) {
	t.Helper()
	x.b.load = func(api.Key) (api.Tile, api.Errno) { return one, e }
	want(t, what+": Pin", x.Pin(key(3)), asked)
	x.b.load = nil
}

func TestPinWithALoadThatFails(t *testing.T) {
	for _, e := range []api.Errno{api.ErrCorrupt, api.ErrStore, api.ErrDown, api.ErrBudget, api.ErrPool, api.ErrNil, 1000, -1} {
		x := made(t, 2)
		x.pin(t, 1)
		x.fails(t, "an empty frame", api.Tile{}, e, e)
		x.has(t, "the frame is empty", 1, 1)
		x.fails(t, "a tile beside the error", of(3, 7), e, e)
		x.has(t, "the frame is empty", 1, 1)
		x.denies(t, "not loaded", key(3))
		x.pin(t, 2)
		x.unpin(t, 1)
		x.fails(t, "a frame that was freed", of(3, 7), e, e)
		x.has(t, "the frame is empty", 1, 2)
		x.denies(t, "not loaded", key(3))
		x.called(t, "all that", "load 5.1", "load 5.3", "load 5.3", "load 5.2", "load 5.3")
		x.pin(t, 3)
		x.has(t, "loaded at last", 2, 3, 2)
		x.holds(t, "loaded at last", 3, 30, 31, 32)
	}
}

// The tile of the frame that was freed was written back, though the Load failed.
func TestPinWithALoadThatFailsBehindAWriteBack(t *testing.T) {
	x := made(t, 1)
	x.pin(t, 1)
	x.set(t, 1, 0, 77, 6)
	x.unpin(t, 1)
	x.fails(t, "a Load that fails", api.Tile{}, api.ErrCorrupt, api.ErrCorrupt)
	x.has(t, "the frame is empty", 0)
	x.called(t, "all that", "load 5.1", "ready 6", "store 5.1 [77 11 12]", "load 5.3")
	x.pin(t, 1)
	x.holds(t, "loaded again", 1, 77, 11, 12)
}

func TestPinWithALoadOfAnotherTile(t *testing.T) {
	for _, other := range []api.Tile{{}, {File: 6, No: 3}, {File: 5, No: 4}, {File: 3, No: 5}, {File: 0, No: 3}, {File: 5, No: 0}, {File: -5, No: 3}, {File: 5, No: -3}, {File: 5 + 1<<32, No: 3}, {File: 5, No: 3 + 1<<32}, {File: 5, No: 1}, {File: 5, No: 2}} {
		other.Kind, other.Elems = api.KindNum, []int64{7}
		x := made(t, 2)
		x.pin(t, 1)
		x.fails(t, "an empty frame", other, api.OK, api.ErrPool)
		x.has(t, "the frame is empty", 1, 1)
		x.pin(t, 2)
		x.unpin(t, 1)
		x.fails(t, "a frame that was freed", other, api.OK, api.ErrPool)
		x.has(t, "the frame is empty", 1, 2)
		x.denies(t, "another tile", key(3))
		x.denies(t, "the tile that was loaded instead", api.Key{File: other.File + 9, No: other.No})
		x.holds(t, "another tile", 2, 20, 21, 22)
		x.pin(t, 3)
		x.holds(t, "the right one", 3, 30, 31, 32)
	}
}

// Nothing but its key is asked of a tile that is loaded.
func TestPinOfAnyTile(t *testing.T) {
	for _, one := range []api.Tile{{}, {File: -1, No: -1, Kind: -1, Elems: []int64{-1}}, {File: 1 << 62, No: 1 << 62, Kind: 1 << 62, Elems: make([]int64, 5000)}, {File: 7, No: 4096, Kind: api.KindChar, Elems: []int64{0x110000}}} {
		x := made(t, 1)
		k := api.Key{File: one.File, No: one.No}
		x.b.load = func(api.Key) (api.Tile, api.Errno) { return one, api.OK }
		want(t, "Pin", x.Pin(k), api.OK)
		if got, e := x.Tile(k); e != api.OK || !same(got, one) {
			t.Errorf("Tile: error %d and %v, want %v", e, got, one)
		}
		if got := x.Keys(); len(got) != 1 || got[0] != k {
			t.Errorf("Keys are %v, want %v", got, k)
		}
	}
}

// Of what fails while a frame is freed, the frame is as it was: dirty, with its number, in its place.
func TestPinWithAWriteBackThatFails(t *testing.T) {
	for _, e := range []api.Errno{api.ErrDown, api.ErrFull, api.ErrPool, api.ErrBudget, -3} {
		for _, call := range []struct {
			what string
			do   func(x bed) api.Errno
		}{
			{"Pin", func(x bed) api.Errno { return x.Pin(key(3)) }},
			{"Fresh", func(x bed) api.Errno { return x.Fresh(of(3, 7)) }},
		} {
			x := made(t, 2)
			x.pin(t, 1, 2)
			x.set(t, 1, 0, 77, 4)
			x.unpin(t, 1)
			x.visit(t, 2) // so that only the other one is not pinned
			x.b.calls = nil
			x.b.ready = func(int) api.Errno { return e }
			x.stays(t, "a Ready that fails", func() { want(t, call.what, call.do(x), e) })
			x.called(t, "a Ready that fails", "ready 4")
			x.b.ready = nil
			x.b.store = func(api.Tile) api.Errno { return e }
			x.stays(t, "a Store that fails", func() { want(t, call.what, call.do(x), e) })
			x.called(t, "a Store that fails", "ready 4", "store 5.1 [77 11 12]")
			x.b.store = nil
			x.denies(t, "no frame was freed", key(3))
			want(t, call.what, call.do(x), api.OK)
			x.b.calls = x.b.calls[:2]
			x.called(t, "at last", "ready 4", "store 5.1 [77 11 12]")
			x.has(t, "at last", 2, 3, 2)
		}
	}
}

// Only the least recently used frame is tried: not another one, if its tile can't be written back.
func TestPinTriesNoOtherFrame(t *testing.T) {
	x := made(t, 3)
	x.pin(t, 1)
	x.set(t, 1, 0, 77, 4)
	x.unpin(t, 1)
	x.visit(t, 2, 3)
	x.b.calls = nil
	x.b.ready = func(int) api.Errno { return api.ErrDown }
	x.stays(t, "Pin", func() { want(t, "Pin", x.Pin(key(4)), api.ErrDown) })
	x.stays(t, "Fresh", func() { want(t, "Fresh", x.Fresh(of(4, 1)), api.ErrDown) })
	x.called(t, "both", "ready 4", "ready 4")
}
