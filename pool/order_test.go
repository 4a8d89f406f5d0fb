package pool_test

import (
	"testing"

	"quadrat/api"
)

// The table of the chapter.
func TestExamples(t *testing.T) {
	x := made(t, 2)
	const a, b, c = 1, 2, 3
	want(t, "Pin a", x.Pin(key(a)), api.OK)
	want(t, "Pin b", x.Pin(key(b)), api.OK)
	want(t, "Pin c", x.Pin(key(c)), api.ErrBudget)
	want(t, "Unpin a", x.Unpin(key(a)), api.OK)
	want(t, "Pin c", x.Pin(key(c)), api.OK)
	x.has(t, "the keys", 2, c, b)
	x.denies(t, "a", key(a))
}

// evicts fails unless the tiles of a full pool are evicted in that order, and no others.
func (x bed) evicts(t *testing.T, what string, nos ...int) {
	t.Helper()
	left := x.Keys()
	for n, no := range nos {
		x.pin(t, 100+n)
		if got := x.Keys(); got[0] != key(100+n) || len(got) != len(left) {
			t.Fatalf("%s: Keys are %v", what, got)
		}
		for _, k := range left {
			gone := true
			for _, stays := range x.Keys() {
				gone = gone && stays != k
			}
			if wanted := k == key(no) || within(nos[:n], k); gone != wanted {
				t.Errorf("%s: eviction %d, of %d: tile %d is gone: %v", what, n, no, k.No, gone)
			}
		}
	}
	x.rejects(t, what+": one more", api.ErrBudget, func() api.Errno { return x.Pin(key(99)) })
}

// within says whether a key is that of one of the tiles.
func within(nos []int, k api.Key) bool {
	for _, no := range nos {
		if k == key(no) {
			return true
		}
	}
	return false
}

func TestTheLeastRecentlyUsedIsEvicted(t *testing.T) {
	x := made(t, 4)
	x.visit(t, 1, 2, 3, 4)
	x.has(t, "one by one", 0, 4, 3, 2, 1)
	x.evicts(t, "one by one", 1, 2, 3, 4)
	x = made(t, 4)
	x.visit(t, 1, 2, 3, 4, 2, 1)
	x.has(t, "used again", 0, 1, 2, 4, 3)
	x.evicts(t, "used again", 3, 4, 2, 1)
	x = made(t, 4)
	x.visit(t, 1, 2, 3, 4, 4, 4)
	x.has(t, "the last one used again", 0, 4, 3, 2, 1)
	x.evicts(t, "the last one used again", 1, 2, 3, 4)
}

// Used is what is pinned and what is unpinned, whichever was later.
func TestPinAndUnpinUseATile(t *testing.T) {
	x := made(t, 4)
	x.pin(t, 1, 2, 3, 4)
	x.has(t, "pinned", 4, 4, 3, 2, 1)
	x.unpin(t, 3, 1, 4, 2)
	x.has(t, "unpinned in another order", 0, 2, 4, 1, 3)
	x.evicts(t, "unpinned in another order", 3, 1, 4, 2)
	x = made(t, 3)
	x.pin(t, 1, 1, 2, 3)
	x.unpin(t, 1, 2, 3, 1)
	x.has(t, "unpinned twice", 0, 1, 3, 2)
	x.evicts(t, "unpinned twice", 2, 3, 1)
	x = made(t, 3)
	x.pin(t, 1, 2, 3)
	x.unpin(t, 1, 2, 3)
	x.pin(t, 1)
	x.has(t, "pinned again", 1, 1, 3, 2)
	x.unpin(t, 1)
	x.evicts(t, "pinned again", 2, 3, 1)
}

// A tile that is new counts as pinned just now.
func TestFreshUsesATile(t *testing.T) {
	x := made(t, 3)
	x.fresh(t, of(1, 7))
	x.pin(t, 2)
	x.fresh(t, of(3, 8))
	x.has(t, "fresh", 3, 3, 2, 1)
	x.unpin(t, 1)
	x.has(t, "unpinned", 2, 1, 3, 2)
	x.unpin(t, 3, 2)
	x.evicts(t, "all", 1, 3, 2)
}

// Whatever is pinned is passed over, also if it was used long ago.
func TestPinnedTilesAreNotEvicted(t *testing.T) {
	x := made(t, 5)
	x.pin(t, 1, 2, 3, 4, 5)
	x.unpin(t, 4, 2)
	x.has(t, "two are not pinned", 3, 2, 4, 5, 3, 1)
	x.evicts(t, "two are not pinned", 4, 2)
	for _, no := range []int{1, 3, 5} {
		x.holds(t, "still pinned", no, first(no)...)
	}
	x = made(t, 3)
	x.pin(t, 1, 2, 3, 2)
	x.unpin(t, 1, 2, 3)
	x.evicts(t, "one is pinned twice", 1, 3)
	x.holds(t, "still pinned", 2, 20, 21, 22)
}

// Whether a tile is dirty makes no difference to when it is evicted.
func TestDirtyTilesAreEvictedInTheirTurn(t *testing.T) {
	x := made(t, 3)
	x.pin(t, 1)
	x.set(t, 1, 0, 7, 0)
	x.unpin(t, 1)
	x.visit(t, 2)
	x.fresh(t, of(3, 8))
	x.unpin(t, 3)
	x.evicts(t, "dirty ones", 1, 2, 3)
}

func TestWhatLeavesTheOrderAsItWas(t *testing.T) {
	x := made(t, 4)
	x.pin(t, 1, 2, 3, 4)
	x.unpin(t, 2, 4)
	x.stays(t, "Get, Set, Tile, Clean", func() {
		for _, no := range []int{1, 3} {
			x.Get(key(no), 0)
			x.set(t, no, 1, 9, 2)
			x.Tile(key(no))
			want(t, "Clean", x.Clean(key(no)), api.OK)
		}
		want(t, "Clean of a clean one", x.Clean(key(2)), api.OK)
	})
	x.stays(t, "calls that answer an error", func() {
		want(t, "Unpin", x.Unpin(key(2)), api.ErrPool)
		want(t, "Unpin of none", x.Unpin(key(9)), api.ErrPool)
		want(t, "Set", x.Set(key(2), 0, 9, 2), api.ErrPool)
		want(t, "Set beyond", x.Set(key(1), 3, 9, 2), api.ErrPool)
		want(t, "Drop", x.Drop(key(1)), api.ErrPool)
		want(t, "Drop of none", x.Drop(key(9)), api.ErrPool)
		want(t, "Clean of none", x.Clean(key(9)), api.ErrPool)
		want(t, "Fresh", x.Fresh(of(1, 9)), api.ErrPool)
		want(t, "Fresh of one that is not pinned", x.Fresh(of(2, 9)), api.ErrPool)
		x.Get(key(2), 0)
		x.Get(key(1), 3)
		x.Tile(key(4))
	})
	x.has(t, "behind all that", 2, 4, 2, 3, 1)
	x.unpin(t, 1, 3)
	x.evicts(t, "behind all that", 2, 4, 1, 3)
}

// Nothing moves if no frame can be freed, or if the one that is to be freed can't be written back.
func TestFreeingThatFailsLeavesTheOrderAsItWas(t *testing.T) {
	x := made(t, 3)
	x.pin(t, 3, 1, 2)
	x.set(t, 1, 0, 9, 2)
	x.stays(t, "all are pinned", func() {
		want(t, "Pin", x.Pin(key(4)), api.ErrBudget)
		want(t, "Fresh", x.Fresh(of(4, 1)), api.ErrBudget)
	})
	x.unpin(t, 1, 2, 3)
	x.b.store = func(api.Tile) api.Errno { return api.ErrDown }
	x.stays(t, "a Store that fails", func() {
		want(t, "Pin", x.Pin(key(4)), api.ErrDown)
		want(t, "Fresh", x.Fresh(of(4, 1)), api.ErrDown)
		want(t, "Clean", x.Clean(key(1)), api.ErrDown)
	})
	x.b.store = nil
	x.evicts(t, "at last", 1, 2, 3)
}

// A Load that fails takes the tile of the freed frame with it, and leaves the others in their order.
func TestALoadThatFailsLeavesTheOrderOfTheOthers(t *testing.T) {
	x := made(t, 3)
	x.visit(t, 3, 1, 2)
	x.b.load = func(api.Key) (api.Tile, api.Errno) { return api.Tile{}, api.ErrCorrupt }
	want(t, "Pin", x.Pin(key(4)), api.ErrCorrupt)
	x.has(t, "the frame is empty", 0, 2, 1)
	want(t, "Pin", x.Pin(key(4)), api.ErrCorrupt)
	x.has(t, "no other one was freed", 0, 2, 1)
}

// A tile that comes back is the most recently used one, wherever it was.
func TestATileThatComesBack(t *testing.T) {
	x := made(t, 3)
	x.visit(t, 1, 2, 3)
	want(t, "Drop", x.Drop(key(1)), api.OK)
	x.visit(t, 1)
	x.has(t, "dropped and pinned again", 0, 1, 3, 2)
	x.visit(t, 4, 2)
	x.has(t, "evicted and pinned again", 0, 2, 4, 1)
}
