package tile_test

import (
	"bytes"
	"slices"
	"testing"

	"quadrat/api"
	"quadrat/tile"
)

func TestEncodeOnlyReadsItsArgument(t *testing.T) {
	for _, n := range []int{0, 1, 12, 13} {
		room := numbers(20) // behind the elements there is room, which is not Encode's
		one := api.Tile{File: 1, No: 2, Kind: api.KindNum, Elems: room[:n]}
		want(t, "Check", tile.Check(one, 1), api.OK)
		b, again := encoded(t, one, 1), encoded(t, one, 1)
		asked := laid(one, 1)
		if !slices.Equal(room, numbers(20)) {
			t.Errorf("the argument and what is behind it are now %v", room)
		}
		for i := range b {
			b[i]++
		}
		_ = append(b[:0], 1, 2, 3)
		if !slices.Equal(room, numbers(20)) {
			t.Errorf("behind a change of the answer the argument is %v", room)
		}
		holds(t, "another answer", again, asked)
		clear(room)
		holds(t, "an answer behind a change of the argument", again, asked)
		holds(t, "the next answer", encoded(t, one, 1), laid(one, 1))
	}
}

func TestDecodeOnlyReadsItsArgument(t *testing.T) {
	for _, n := range []int{0, 1, 12, 13} {
		one := api.Tile{File: 1, No: 2, Kind: api.KindNum, Elems: numbers(n)}
		room := append(laid(one, 1), 7, 8, 9)
		asked := bytes.Clone(room)
		b := room[:128]
		first, second := decoded(t, b), decoded(t, b)
		sound(t, "a tile", b, true)
		holds(t, "the argument and what is behind it", room, asked)
		for i := range first.Elems {
			first.Elems[i] = 1
		}
		_ = append(first.Elems, 1, 1, 1, 1)
		holds(t, "the argument behind a change of the answer", room, asked)
		same(t, "another answer", second, one)
		clear(room)
		same(t, "an answer behind a change of the argument", second, one)
		refused(t, "the argument that was changed", b)
	}
}

func TestWhatIsRefusedIsOnlyRead(t *testing.T) {
	elems := numbers(14)
	barred(t, "too many", api.Tile{File: 1, No: 2, Kind: api.KindNum, Elems: elems}, 1)
	barred(t, "no characters", api.Tile{File: 1, No: 2, Kind: api.KindChar, Elems: elems[:3]}, 1)
	if !slices.Equal(elems, numbers(14)) {
		t.Errorf("the argument is now %v", elems)
	}
	p := partsOf(plain())
	p.count = 14
	b := p.bytes(128)
	asked := bytes.Clone(b)
	refused(t, "too many", b)
	holds(t, "the argument", b, asked)
	b[127]++
	asked = bytes.Clone(b)
	refused(t, "another sum", b)
	sound(t, "another sum", b, false)
	holds(t, "the argument", b, asked)
}

// An answer hangs on its argument alone, not on what was asked before.
func TestAnswersHangOnArgumentsAlone(t *testing.T) {
	r := noise(5)
	var tiles []api.Tile
	var asked [][]byte
	for range 40 {
		one := r.tile(2)
		tiles, asked = append(tiles, one), append(asked, encoded(t, one, 2))
	}
	for range 400 {
		i := r.below(len(tiles))
		holds(t, "asked again", encoded(t, tiles[i], 2), asked[i])
		same(t, "asked again", decoded(t, asked[i]), tiles[i])
		refused(t, "something else between", asked[i][:128+r.below(128)])
		barred(t, "something else between", api.Tile{File: 1, Kind: 1 + r.below(2), Elems: numbers(30)}, 2)
	}
}
