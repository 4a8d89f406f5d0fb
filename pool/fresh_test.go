package pool_test

import (
	"testing"

	"quadrat/api"
)

func TestFresh(t *testing.T) {
	x := made(t, 3)
	x.fresh(t, of(1, 7, 8))
	x.has(t, "fresh", 1, 1)
	x.holds(t, "fresh", 1, 7, 8)
	x.fresh(t, of(2))
	x.has(t, "without elements", 2, 2, 1)
	x.holds(t, "without elements", 2)
	x.pin(t, 1)
	x.has(t, "pinned again", 3, 1, 2)
	x.called(t, "nothing is loaded, and nothing stored")
}

func TestFreshOfAResidentTile(t *testing.T) {
	x := made(t, 2)
	x.fresh(t, of(1, 7, 8))
	x.rejects(t, "a pinned one", api.ErrPool, func() api.Errno { return x.Fresh(of(1, 9)) })
	x.rejects(t, "of another kind", api.ErrPool, func() api.Errno {
		return x.Fresh(api.Tile{File: 5, No: 1, Kind: api.KindChar})
	})
	x.unpin(t, 1)
	x.rejects(t, "one that is not pinned", api.ErrPool, func() api.Errno { return x.Fresh(of(1, 7, 8)) })
	x.pin(t, 1)
	x.holds(t, "behind all that", 1, 7, 8)
	x.pin(t, 2)
	x.rejects(t, "one that was loaded", api.ErrPool, func() api.Errno { return x.Fresh(of(2, 9)) })
	x.holds(t, "behind all that", 2, 20, 21, 22)
}

// ErrPool comes ahead of ErrBudget, and of what freeing a frame would answer.
func TestFreshOfAResidentTileInAFullPool(t *testing.T) {
	x := made(t, 1)
	x.fresh(t, of(1, 7))
	x.rejects(t, "all frames pinned", api.ErrPool, func() api.Errno { return x.Fresh(of(1, 9)) })
	x.unpin(t, 1)
	x.b.ready = func(int) api.Errno { return api.ErrDown }
	x.rejects(t, "a frame that can't be freed", api.ErrPool, func() api.Errno { return x.Fresh(of(1, 9)) })
}

func TestFreshOfTilesNextToOneThatIsResident(t *testing.T) {
	x := made(t, 64)
	x.fresh(t, of(1, 7))
	for n, k := range others() {
		x.fresh(t, api.Tile{File: k.File, No: k.No, Elems: []int64{int64(n)}})
	}
	for n, k := range others() {
		if v, e := x.Get(k, 0); e != api.OK || v != int64(n) {
			t.Errorf("Get %v: error %d and %d, want %d", k, e, v, n)
		}
	}
	x.holds(t, "the first one", 1, 7)
}

func TestFreshWithAllFramesPinned(t *testing.T) {
	x := made(t, 2)
	x.fresh(t, of(1, 7))
	x.pin(t, 2, 2)
	x.called(t, "the first ones", "load 5.2")
	x.rejects(t, "Fresh", api.ErrBudget, func() api.Errno { return x.Fresh(of(3, 9)) })
	x.unpin(t, 2)
	x.rejects(t, "Fresh with a tile that is still pinned", api.ErrBudget, func() api.Errno { return x.Fresh(of(3, 9)) })
	x.denies(t, "not taken", key(3))
	x.holds(t, "as it was", 1, 7)
}

func TestFreshFreesAFrame(t *testing.T) {
	x := made(t, 2)
	x.visit(t, 1)
	x.fresh(t, of(2, 7))
	x.called(t, "an empty frame", "load 5.1")
	x.fresh(t, of(3, 8))
	x.called(t, "a clean frame")
	x.has(t, "a clean frame", 2, 3, 2)
	x.set(t, 2, 0, 77, 5)
	x.unpin(t, 2)
	x.fresh(t, of(4, 9))
	x.called(t, "a dirty frame", "ready 5", "store 5.2 [77]")
	x.has(t, "a dirty frame", 2, 4, 3)
	x.holds(t, "the last one", 4, 9)
}

// A tile that is new is written back with the number 0, also if nothing was set in it.
func TestFreshIsDirty(t *testing.T) {
	x := made(t, 1)
	x.fresh(t, of(1, 7, 8))
	want(t, "Clean", x.Clean(key(1)), api.OK)
	x.called(t, "Clean", "ready 0", "store 5.1 [7 8]")
	x.unpin(t, 1)
	x.pin(t, 2)
	x.called(t, "it is clean", "load 5.2")
	x.unpin(t, 2)
	x.fresh(t, of(3))
	x.unpin(t, 3)
	x.called(t, "it is resident")
	x.pin(t, 1)
	x.called(t, "evicted", "ready 0", "store 5.3 []", "load 5.1")
	x.holds(t, "loaded again", 1, 7, 8)
}

// The number that a frame had for its last tile is not that of the next one.
func TestFreshHasNoNumber(t *testing.T) {
	x := made(t, 1)
	x.fresh(t, of(1, 7))
	x.set(t, 1, 0, 8, 50)
	x.unpin(t, 1)
	x.fresh(t, of(2, 9))
	x.called(t, "evicted", "ready 50", "store 5.1 [8]")
	want(t, "Clean", x.Clean(key(2)), api.OK)
	x.called(t, "the next one", "ready 0", "store 5.2 [9]")
	x.set(t, 2, 0, 10, 60)
	x.unpin(t, 2)
	want(t, "Drop", x.Drop(key(2)), api.OK)
	x.fresh(t, of(2, 11))
	want(t, "Clean", x.Clean(key(2)), api.OK)
	x.called(t, "behind a Drop", "ready 0", "store 5.2 [11]")
}

func TestUnpin(t *testing.T) {
	x := made(t, 2)
	x.pin(t, 1, 1)
	x.unpin(t, 1)
	x.has(t, "once", 1, 1)
	x.holds(t, "once", 1, 10, 11, 12)
	x.unpin(t, 1)
	x.has(t, "twice", 0, 1)
	x.denies(t, "twice", key(1))
	for range 2 {
		x.rejects(t, "thrice", api.ErrPool, func() api.Errno { return x.Unpin(key(1)) })
	}
	x.fresh(t, of(2, 7))
	x.unpin(t, 2)
	x.rejects(t, "a new one, twice", api.ErrPool, func() api.Errno { return x.Unpin(key(2)) })
	x.pin(t, 2)
	x.has(t, "pinned again", 1, 2, 1)
	x.called(t, "all that", "load 5.1")
}

func TestUnpinOfATileThatIsNotResident(t *testing.T) {
	x := made(t, 1)
	x.pin(t, 1)
	for _, k := range others() {
		x.rejects(t, "none", api.ErrPool, func() api.Errno { return x.Unpin(k) })
	}
	x.unpin(t, 1)
	x.pin(t, 2)
	x.rejects(t, "an evicted one", api.ErrPool, func() api.Errno { return x.Unpin(key(1)) })
	x.unpin(t, 2)
	want(t, "Drop", x.Drop(key(2)), api.OK)
	x.rejects(t, "a dropped one", api.ErrPool, func() api.Errno { return x.Unpin(key(2)) })
}
