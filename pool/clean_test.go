package pool_test

import (
	"testing"

	"quadrat/api"
)

func TestCleanOfATileThatIsNotResident(t *testing.T) {
	x := made(t, 1)
	x.fresh(t, of(1, 7))
	for _, k := range others() {
		x.rejects(t, "none", api.ErrPool, func() api.Errno { return x.Clean(k) })
	}
	x.unpin(t, 1)
	x.pin(t, 2)
	x.rejects(t, "an evicted one", api.ErrPool, func() api.Errno { return x.Clean(key(1)) })
}

func TestCleanOfACleanTile(t *testing.T) {
	x := made(t, 1)
	x.b.ready = func(int) api.Errno { return api.ErrDown }
	x.b.store = func(api.Tile) api.Errno { return api.ErrDown }
	x.pin(t, 1)
	x.rejects(t, "a pinned one", api.OK, func() api.Errno { return x.Clean(key(1)) })
	x.unpin(t, 1)
	x.rejects(t, "one that is not pinned", api.OK, func() api.Errno { return x.Clean(key(1)) })
}

// cleans fails unless Clean of tile 1 makes just these calls, once.
func (x bed) cleans(t *testing.T, what string, calls ...string) {
	t.Helper()
	x.b.calls = nil
	x.stays(t, what, func() { want(t, what+": Clean", x.Clean(key(1)), api.OK) })
	x.called(t, what, calls...)
	x.rejects(t, what+", once more", api.OK, func() api.Errno { return x.Clean(key(1)) })
}

func TestCleanOfADirtyTile(t *testing.T) {
	x := made(t, 3)
	x.pin(t, 1)
	x.set(t, 1, 0, 7, 4)
	x.pin(t, 2)
	x.cleans(t, "a pinned one", "ready 4", "store 5.1 [7 11 12]")
	x.holds(t, "still pinned", 1, 7, 11, 12)
	x.set(t, 1, 0, 8, 6)
	x.unpin(t, 1)
	x.pin(t, 3)
	x.cleans(t, "one that is not pinned", "ready 6", "store 5.1 [8 11 12]")
	x.pin(t, 1, 1)
	x.set(t, 1, 0, 9, 5)
	x.cleans(t, "one that is pinned twice", "ready 5", "store 5.1 [9 11 12]")
}

// A tile that was written back is clean again, with the number 0: it is not written back when it is evicted, and a number that was greater is forgotten.
func TestWrittenBackIsClean(t *testing.T) {
	x := made(t, 1)
	x.pin(t, 1)
	x.set(t, 1, 0, 7, 40)
	x.cleans(t, "the first time", "ready 40", "store 5.1 [7 11 12]")
	x.set(t, 1, 1, 8, 3)
	x.cleans(t, "the second time", "ready 3", "store 5.1 [7 8 12]")
	x.set(t, 1, 2, 9, -3)
	x.cleans(t, "the third time", "ready 0", "store 5.1 [7 8 9]")
	x.unpin(t, 1)
	x.visit(t, 2)
	x.called(t, "evicted", "load 5.2")
	x.pin(t, 1)
	x.holds(t, "loaded again", 1, 7, 8, 9)
	x.set(t, 1, 0, 5, 2)
	x.cleans(t, "loaded again", "ready 2", "store 5.1 [5 8 9]")
}

func TestCleanThatFails(t *testing.T) {
	for _, e := range []api.Errno{api.ErrDown, api.ErrFull, api.ErrPool, api.ErrNil, -1} {
		for _, pins := range []int{0, 1, 2} {
			x := made(t, 2)
			x.pin(t, 1)
			x.set(t, 1, 0, 7, 4)
			x.visit(t, 2)
			for range pins {
				x.pin(t, 1)
			}
			x.unpin(t, 1)
			x.b.calls = nil
			x.b.ready = func(int) api.Errno { return e }
			x.stays(t, "a Ready that fails", func() { want(t, "Clean", x.Clean(key(1)), e) })
			x.called(t, "a Ready that fails", "ready 4")
			x.b.ready = nil
			x.b.store = func(api.Tile) api.Errno { return e }
			for range 2 {
				x.stays(t, "a Store that fails", func() { want(t, "Clean", x.Clean(key(1)), e) })
				x.called(t, "a Store that fails", "ready 4", "store 5.1 [7 11 12]")
			}
			x.b.store = nil
			x.cleans(t, "at last", "ready 4", "store 5.1 [7 11 12]")
		}
	}
}

// A frame whose tile could not be written back keeps its number: a number that is set later counts only if it is greater.
func TestCleanThatFailsKeepsTheNumber(t *testing.T) {
	x := made(t, 1)
	x.pin(t, 1)
	x.set(t, 1, 0, 7, 4)
	x.b.store = func(api.Tile) api.Errno { return api.ErrDown }
	want(t, "Clean", x.Clean(key(1)), api.ErrDown)
	x.b.store = nil
	x.set(t, 1, 1, 8, 3)
	x.cleans(t, "at last", "ready 4", "store 5.1 [7 8 12]")
}

func TestDropOfATileThatIsNotResident(t *testing.T) {
	x := made(t, 2)
	x.visit(t, 1)
	for _, k := range others() {
		x.rejects(t, "none", api.ErrPool, func() api.Errno { return x.Drop(k) })
	}
	want(t, "Drop", x.Drop(key(1)), api.OK)
	x.rejects(t, "a dropped one", api.ErrPool, func() api.Errno { return x.Drop(key(1)) })
}

func TestDropOfAPinnedTile(t *testing.T) {
	x := made(t, 2)
	x.pin(t, 1, 1)
	x.fresh(t, of(2, 7))
	x.b.calls = nil
	for _, no := range []int{1, 2} {
		x.rejects(t, "pinned", api.ErrPool, func() api.Errno { return x.Drop(key(no)) })
	}
	x.unpin(t, 1)
	x.rejects(t, "still pinned", api.ErrPool, func() api.Errno { return x.Drop(key(1)) })
	x.holds(t, "still resident", 1, 10, 11, 12)
	x.holds(t, "still resident", 2, 7)
	x.unpin(t, 1)
	want(t, "Drop", x.Drop(key(1)), api.OK)
	x.has(t, "at last", 1, 2)
}

func TestDropOfACleanTile(t *testing.T) {
	x := made(t, 3)
	x.visit(t, 1, 2, 3)
	x.b.calls = nil
	want(t, "Drop", x.Drop(key(2)), api.OK)
	x.has(t, "dropped", 0, 3, 1)
	x.denies(t, "dropped", key(2))
	x.called(t, "nothing is stored")
	x.pin(t, 4)
	x.has(t, "its frame is empty", 1, 4, 3, 1)
	want(t, "Drop", x.Drop(key(1)), api.OK)
	want(t, "Drop", x.Drop(key(3)), api.OK)
	x.has(t, "dropped", 1, 4)
}

// What was set in a tile that is dropped is lost, and nobody is asked for it.
func TestDropOfADirtyTile(t *testing.T) {
	x := made(t, 1)
	x.b.ready = func(int) api.Errno { return api.ErrDown }
	x.b.store = func(api.Tile) api.Errno { return api.ErrDown }
	x.pin(t, 1)
	x.set(t, 1, 0, 77, 4)
	x.unpin(t, 1)
	want(t, "Drop", x.Drop(key(1)), api.OK)
	x.has(t, "dropped", 0)
	x.fresh(t, of(2, 7))
	x.unpin(t, 2)
	want(t, "Drop", x.Drop(key(2)), api.OK)
	x.called(t, "nothing is stored", "load 5.1")
	x.pin(t, 1)
	x.called(t, "loaded again", "load 5.1")
	x.holds(t, "loaded again", 1, 10, 11, 12)
	want(t, "Clean", x.Clean(key(1)), api.OK)
	x.called(t, "it is clean")
}
