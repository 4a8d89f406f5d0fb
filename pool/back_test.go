package pool_test

import (
	"slices"
	"testing"

	"quadrat/api"
	"quadrat/pool"
)

// sees fails unless a pool, asked from within a call of its backing store, has these tiles.
func (x bed) sees(t *testing.T, what string, pins int, nos ...int) {
	t.Helper()
	x.has(t, what, pins, nos...)
	x.holds(t, what, 1, 10, 11, 12)
}

// From within its calls, the backing store finds the frame that is freed as it was till it is written back, and empty behind that.
func TestWhatTheBackingStoreSees(t *testing.T) {
	x := made(t, 2)
	x.pin(t, 1)
	x.fresh(t, of(2, 7))
	x.set(t, 2, 0, 8, 3)
	x.unpin(t, 2)
	x.b.calls = nil
	x.b.ready = func(int) api.Errno {
		x.sees(t, "Ready", 1, 2, 1)
		return api.OK
	}
	x.b.store = func(one api.Tile) api.Errno {
		x.sees(t, "Store", 1, 2, 1)
		return api.OK
	}
	x.b.load = func(k api.Key) (api.Tile, api.Errno) {
		x.sees(t, "Load", 1, 1)
		return of(k.No, 9), api.OK
	}
	x.pin(t, 3)
	x.called(t, "all that", "ready 3", "store 5.2 [8]", "load 5.3")
	x.has(t, "behind all that", 2, 3, 1)
}

// meddles asks for all that changes a pool, which must be denied.
func (x bed) meddles(t *testing.T, what string) {
	t.Helper()
	before := len(x.b.calls)
	x.stays(t, what, func() {
		for no := range 5 {
			want(t, what+": Pin", x.Pin(key(no)), api.ErrPool)
			want(t, what+": Fresh", x.Fresh(of(no, 66)), api.ErrPool)
			want(t, what+": Unpin", x.Unpin(key(no)), api.ErrPool)
			want(t, what+": Set", x.Set(key(no), 0, 66, 66), api.ErrPool)
			want(t, what+": Clean", x.Clean(key(no)), api.ErrPool)
			want(t, what+": Drop", x.Drop(key(no)), api.ErrPool)
		}
	})
	if len(x.b.calls) > before {
		t.Errorf("%s: called %q", what, x.b.calls[before:])
	}
}

// A backing store that calls for a change of its pool gets none: otherwise there could be more tiles than frames, or a pinned one could be evicted, or what was set be lost.
func TestABackingStoreThatMeddles(t *testing.T) {
	x := made(t, 3)
	x.pin(t, 1, 4)
	x.fresh(t, of(2, 7))
	x.set(t, 2, 0, 8, 3)
	x.unpin(t, 2, 4)
	x.set(t, 1, 0, 5, 6)
	x.b.calls = nil
	x.b.ready = func(int) api.Errno {
		x.meddles(t, "Ready")
		return api.OK
	}
	x.b.store = func(one api.Tile) api.Errno {
		x.meddles(t, "Store")
		return api.OK
	}
	x.b.load = func(k api.Key) (api.Tile, api.Errno) {
		x.meddles(t, "Load")
		return of(k.No, 9), api.OK
	}
	x.stays(t, "Clean", func() { want(t, "Clean", x.Clean(key(1)), api.OK) })
	x.called(t, "Clean", "ready 6", "store 5.1 [5 11 12]")
	x.pin(t, 3)
	x.called(t, "Pin", "ready 3", "store 5.2 [8]", "load 5.3")
	x.has(t, "behind all that", 2, 3, 4, 1)
	x.holds(t, "the tile that was loaded", 3, 9)
	x.holds(t, "the tile that was written back", 1, 5, 11, 12)
	want(t, "Clean", x.Clean(key(1)), api.OK)
	x.called(t, "it is clean")
	x.visit(t, 5)
	x.fresh(t, of(6, 1))
	x.has(t, "it goes on", 3, 6, 3, 1)
}

// A backing store that panics is one that fails: the pool goes on.
func TestABackingStoreThatPanics(t *testing.T) {
	x := made(t, 2)
	x.pin(t, 1)
	x.set(t, 1, 0, 77, 4)
	x.unpin(t, 1)
	x.visit(t, 2)
	x.b.calls = nil
	x.b.ready = func(int) api.Errno { panic("Ready") }
	x.stays(t, "Ready", func() {
		want(t, "Clean", x.Clean(key(1)), api.ErrPool)
		want(t, "Pin", x.Pin(key(3)), api.ErrPool)
		want(t, "Fresh", x.Fresh(of(3, 1)), api.ErrPool)
	})
	x.called(t, "Ready", "ready 4", "ready 4", "ready 4")
	x.b.ready = nil
	x.b.store = func(api.Tile) api.Errno { panic(nil) }
	x.stays(t, "Store", func() { want(t, "Pin", x.Pin(key(3)), api.ErrPool) })
	x.called(t, "Store", "ready 4", "store 5.1 [77 11 12]")
	x.b.store = nil
	x.b.load = func(api.Key) (api.Tile, api.Errno) { panic(api.OK) }
	want(t, "Pin", x.Pin(key(3)), api.ErrPool)
	x.called(t, "Load", "ready 4", "store 5.1 [77 11 12]", "load 5.3")
	x.has(t, "the frame is empty", 0, 2)
	x.b.load = nil
	x.pin(t, 1, 2)
	x.holds(t, "it goes on", 1, 77, 11, 12)
}

// A nil pointer is a backing store, if only one that panics.
func TestABackingStoreThatIsANilPointer(t *testing.T) {
	p, e := pool.New(1, (*back)(nil))
	want(t, "New", e, api.OK)
	want(t, "Pin", p.Pin(key(1)), api.ErrPool)
	want(t, "Fresh", p.Fresh(of(1, 7)), api.OK)
	want(t, "Clean", p.Clean(key(1)), api.ErrPool)
	want(t, "Unpin", p.Unpin(key(1)), api.OK)
	want(t, "Pin", p.Pin(key(2)), api.ErrPool)
	if got := p.Keys(); !slices.Equal(got, []api.Key{key(1)}) {
		t.Errorf("Keys are %v", got)
	}
}
