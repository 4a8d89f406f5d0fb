package pool_test

import (
	"slices"
	"testing"

	"quadrat/api"
)

// spread writes over a tile's elements, and into the room behind them.
func spread(one api.Tile) {
	for i := range one.Elems {
		one.Elems[i] = 88
	}
	_ = append(one.Elems, 88, 88)
}

func TestFreshOnlyReadsItsArgument(t *testing.T) {
	x := made(t, 1)
	given := like(of(1, 7, 8))
	room := given.Elems[:5]
	x.fresh(t, given)
	want(t, "Fresh again", x.Fresh(given), api.ErrPool)
	x.set(t, 1, 0, 9, 0)
	if !slices.Equal(room, []int64{7, 8, 0, 0, 0}) {
		t.Errorf("the argument and its room are %v", room)
	}
}

func TestFreshKeepsNothingOfItsArgument(t *testing.T) {
	x := made(t, 1)
	given := like(of(1, 7, 8))
	x.fresh(t, given)
	spread(given)
	x.holds(t, "behind a change of the argument", 1, 7, 8)
	want(t, "Clean", x.Clean(key(1)), api.OK)
	x.called(t, "Clean", "ready 0", "store 5.1 [7 8]")
}

func TestTilesThatWereAnsweredAreNewMemory(t *testing.T) {
	x := made(t, 1)
	x.fresh(t, of(1, 7, 8))
	one, _ := x.Tile(key(1))
	two, _ := x.Tile(key(1))
	x.set(t, 1, 0, 9, 0)
	if !same(one, of(1, 7, 8)) {
		t.Errorf("behind a Set, the answer is %v", one)
	}
	spread(one)
	if !same(two, of(1, 7, 8)) {
		t.Errorf("another answer is %v", two)
	}
	x.holds(t, "behind a change of the answer", 1, 9, 8)
	x.unpin(t, 1)
	x.visit(t, 2)
	if !same(two, of(1, 7, 8)) {
		t.Errorf("behind an eviction, the answer is %v", two)
	}
}

func TestTilesThatWereStoredAreNewMemory(t *testing.T) {
	x := made(t, 1)
	x.fresh(t, of(1, 7, 8))
	var kept []api.Tile
	x.b.store = func(one api.Tile) api.Errno {
		kept = append(kept, one)
		return api.OK
	}
	want(t, "Clean", x.Clean(key(1)), api.OK)
	x.set(t, 1, 0, 9, 0)
	if !same(kept[0], of(1, 7, 8)) {
		t.Errorf("behind a Set, the stored tile is %v", kept[0])
	}
	spread(kept[0])
	x.holds(t, "behind a change of the stored tile", 1, 9, 8)
	x.unpin(t, 1)
	x.b.load = func(k api.Key) (api.Tile, api.Errno) { return of(k.No, 1), api.OK }
	x.pin(t, 2)
	if len(kept) != 2 || !same(kept[1], of(1, 9, 8)) {
		t.Errorf("stored are %v", kept)
	}
}

// A Store may do with a tile what it likes, also if it answers an error.
func TestAStoreThatChangesItsTile(t *testing.T) {
	for _, answer := range []api.Errno{api.OK, api.ErrDown} {
		x := made(t, 1)
		x.fresh(t, of(1, 7, 8))
		x.b.store = func(one api.Tile) api.Errno {
			spread(one)
			return answer
		}
		want(t, "Clean", x.Clean(key(1)), answer)
		x.holds(t, "behind a Clean", 1, 7, 8)
		x.set(t, 1, 0, 7, 0)
		want(t, "Clean", x.Clean(key(1)), answer)
		x.b.calls = x.b.calls[2:]
		x.called(t, "the second Clean", "ready 0", "store 5.1 [7 8]")
	}
}

func TestTilesThatWereLoadedAreNotKept(t *testing.T) {
	x := made(t, 1)
	given := like(of(1, 7, 8))
	room := given.Elems[:5]
	x.b.load = func(api.Key) (api.Tile, api.Errno) { return given, api.OK }
	x.pin(t, 1)
	x.set(t, 1, 0, 9, 0)
	if !slices.Equal(room, []int64{7, 8, 0, 0, 0}) {
		t.Errorf("the loaded tile and its room are %v", room)
	}
	spread(given)
	x.holds(t, "behind a change of the loaded tile", 1, 9, 8)
	x.unpin(t, 1)
	want(t, "Drop", x.Drop(key(1)), api.OK)
	x.pin(t, 1)
	x.holds(t, "loaded again", 1, 88, 88)
}

func TestKeysAnswersNewMemory(t *testing.T) {
	x := made(t, 3)
	x.pin(t, 1, 2)
	one, two := x.Keys(), x.Keys()
	for i := range one {
		one[i] = key(66)
	}
	_ = append(one, key(67))
	_ = append(one[:1], key(68))
	if !slices.Equal(two, []api.Key{key(2), key(1)}) {
		t.Errorf("another answer is %v", two)
	}
	x.has(t, "behind a change of the answer", 2, 2, 1)
	x.pin(t, 3)
	if !slices.Equal(two, []api.Key{key(2), key(1)}) {
		t.Errorf("behind a Pin, the answer is %v", two)
	}
}
