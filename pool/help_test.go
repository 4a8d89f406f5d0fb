package pool_test

import (
	"fmt"
	"slices"
	"testing"

	"quadrat/api"
	"quadrat/pool"
)

// want fails unless an error is the one that is asked for.
func want(t *testing.T, what string, got, asked api.Errno) {
	t.Helper()
	if got != asked {
		t.Errorf("%s: error %d, want %d", what, got, asked)
	}
}

// key is a tile of file 5.
func key(no int) api.Key { return api.Key{File: 5, No: no} }

// of is a tile of file 5 with these elements.
func of(no int, elems ...int64) api.Tile {
	return api.Tile{File: 5, No: no, Kind: api.KindNum, Elems: elems}
}

// like is the same tile in other memory, with room behind its elements.
func like(x api.Tile) api.Tile {
	x.Elems = append(make([]int64, 0, len(x.Elems)+3), x.Elems...)
	return x
}

// same says whether two tiles are the same.
func same(x, y api.Tile) bool {
	return x.File == y.File && x.No == y.No && x.Kind == y.Kind && slices.Equal(x.Elems, y.Elems)
}

// first are the elements that a backing store has for a tile that was never stored in it.
func first(no int) []int64 { return []int64{int64(10 * no), int64(10*no + 1), int64(10*no + 2)} }

// back is a backing store in memory, which tells what was called. Each of its calls can be replaced.
type back struct {
	tiles map[api.Key]api.Tile
	calls []string
	load  func(k api.Key) (api.Tile, api.Errno)
	ready func(n int) api.Errno
	store func(x api.Tile) api.Errno
}

// Load is what was stored last, or a tile that was there from the start.
func (b *back) Load(k api.Key) (api.Tile, api.Errno) {
	b.calls = append(b.calls, fmt.Sprintf("load %d.%d", k.File, k.No))
	if b.load != nil {
		return b.load(k)
	}
	return b.get(k), api.OK
}

// get is what a Load that goes well answers.
func (b *back) get(k api.Key) api.Tile {
	if x, stored := b.tiles[k]; stored {
		return like(x)
	}
	return api.Tile{File: k.File, No: k.No, Kind: api.KindNum, Elems: first(k.No)}
}

// Ready tells that it was called.
func (b *back) Ready(n int) api.Errno {
	b.calls = append(b.calls, fmt.Sprintf("ready %d", n))
	if b.ready != nil {
		return b.ready(n)
	}
	return api.OK
}

// Store keeps a tile.
func (b *back) Store(x api.Tile) api.Errno {
	b.calls = append(b.calls, stored(x))
	if b.store != nil {
		return b.store(x)
	}
	b.tiles[api.Key{File: x.File, No: x.No}] = like(x)
	return api.OK
}

// stored is what a call of Store tells.
func stored(x api.Tile) string { return fmt.Sprintf("store %d.%d %v", x.File, x.No, x.Elems) }

// bed is a pool, and its backing store.
type bed struct {
	*pool.Pool
	b *back
}

// made is a new pool of so many frames.
func made(t *testing.T, frames int) bed {
	t.Helper()
	b := &back{tiles: make(map[api.Key]api.Tile)}
	p, e := pool.New(frames, b)
	if e != api.OK || p == nil {
		t.Fatalf("New(%d): error %d and %v", frames, e, p)
	}
	return bed{p, b}
}

// pin pins tiles, which must go well.
func (x bed) pin(t *testing.T, nos ...int) {
	t.Helper()
	for _, no := range nos {
		want(t, fmt.Sprint("Pin ", no), x.Pin(key(no)), api.OK)
	}
}

// unpin pins tiles once less, which must go well.
func (x bed) unpin(t *testing.T, nos ...int) {
	t.Helper()
	for _, no := range nos {
		want(t, fmt.Sprint("Unpin ", no), x.Unpin(key(no)), api.OK)
	}
}

// visit pins tiles one after the other, each of them only for a while.
func (x bed) visit(t *testing.T, nos ...int) {
	t.Helper()
	for _, no := range nos {
		x.pin(t, no)
		x.unpin(t, no)
	}
}

// fresh has a tile that is new, which must go well.
func (x bed) fresh(t *testing.T, one api.Tile) {
	t.Helper()
	want(t, fmt.Sprint("Fresh ", one), x.Fresh(one), api.OK)
}

// set sets an element, which must go well.
func (x bed) set(t *testing.T, no, i int, v int64, number int) {
	t.Helper()
	want(t, fmt.Sprintf("Set %d, %d to %d, %d", no, i, v, number), x.Set(key(no), i, v, number), api.OK)
}

// has fails unless the pool has just these tiles, the most recently used one first, pinned so often in all.
func (x bed) has(t *testing.T, what string, pins int, nos ...int) {
	t.Helper()
	var keys []api.Key
	for _, no := range nos {
		keys = append(keys, key(no))
	}
	if got := x.Keys(); !slices.Equal(got, keys) {
		t.Errorf("%s: Keys are %v, want %v", what, got, keys)
	}
	if x.Held() != len(nos) || x.Pins() != pins {
		t.Errorf("%s: Held %d, Pins %d, want %d, %d", what, x.Held(), x.Pins(), len(nos), pins)
	}
}

// holds fails unless a pinned tile has just these elements, however they are asked for.
func (x bed) holds(t *testing.T, what string, no int, elems ...int64) {
	t.Helper()
	got, e := x.Tile(key(no))
	if e != api.OK || !same(got, of(no, elems...)) {
		t.Errorf("%s: Tile %d: error %d and %v, want %v", what, no, e, got, elems)
	}
	for i, v := range elems {
		if got, e := x.Get(key(no), i); e != api.OK || got != v {
			t.Errorf("%s: Get %d, %d: error %d and %d, want %d", what, no, i, e, got, v)
		}
	}
}

// called fails unless just these calls of the backing store were made since it was last asked.
func (x bed) called(t *testing.T, what string, calls ...string) {
	t.Helper()
	if !slices.Equal(x.b.calls, calls) {
		t.Errorf("%s: called %q, want %q", what, x.b.calls, calls)
	}
	x.b.calls = nil
}

// stays fails unless a call leaves which tiles are resident, their order and how often they are pinned as they were.
func (x bed) stays(t *testing.T, what string, call func()) {
	t.Helper()
	keys, held, pins := x.Keys(), x.Held(), x.Pins()
	call()
	if got := x.Keys(); !slices.Equal(got, keys) || x.Held() != held || x.Pins() != pins {
		t.Errorf("%s: Keys %v, Held %d, Pins %d, want %v, %d, %d", what, got, x.Held(), x.Pins(), keys, held, pins)
	}
}

// rejects fails unless a call answers that error, leaves the pool as it was and asks nothing of the backing store.
func (x bed) rejects(t *testing.T, what string, asked api.Errno, call func() api.Errno) {
	t.Helper()
	before := len(x.b.calls)
	x.stays(t, what, func() { want(t, what, call(), asked) })
	if got := x.b.calls[before:]; len(got) > 0 {
		t.Errorf("%s: called %q", what, got)
	}
}

// denies fails unless Get, Set and Tile of a tile answer ErrPool, with nothing beside it.
func (x bed) denies(t *testing.T, what string, k api.Key) {
	t.Helper()
	for _, i := range []int{-1, 0, 1, 3} {
		x.outside(t, what, k, i)
	}
	x.rejects(t, what+": Tile", api.ErrPool, func() api.Errno {
		got, e := x.Tile(k)
		if !same(got, api.Tile{}) {
			t.Errorf("%s: Tile is %v", what, got)
		}
		return e
	})
}

// outside fails unless Get and Set of an element answer ErrPool, with nothing beside it.
func (x bed) outside(t *testing.T, what string, k api.Key, i int) {
	t.Helper()
	x.rejects(t, fmt.Sprint(what, ": Get ", i), api.ErrPool, func() api.Errno {
		v, e := x.Get(k, i)
		if v != 0 {
			t.Errorf("%s: Get is %d", what, v)
		}
		return e
	})
	x.rejects(t, fmt.Sprint(what, ": Set ", i), api.ErrPool, func() api.Errno { return x.Set(k, i, 77, 9) })
}

// others are keys of no tile that the tests have in a pool, however near they are to one of file 5.
func others() []api.Key {
	return []api.Key{{}, {File: 5, No: 99}, {File: 4, No: 1}, {File: 6, No: 1}, {File: 1, No: 5}, {File: -5, No: 1}, {File: 5, No: -1}, {File: 5 + 1<<32, No: 1}}
}

// noise yields numbers that look like chance and are always the same.
type noise uint64

// below is the next number, from 0 on and below n.
func (r *noise) below(n int) int {
	*r = *r*6364136223846793005 + 1442695040888963407
	return int(uint64(*r>>33) % uint64(n))
}
