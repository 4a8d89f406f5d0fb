package folder_test

import (
	"bytes"
	"slices"
	"testing"

	"quadrat/api"
	"quadrat/folder"
)

// roomy is a folder with room behind each of its lists, which is nobody's but its own, and the lists with all their room.
func roomy() (api.Folder, []api.Entry, [][]int) {
	f := plain()
	entries := append(f.Entries, api.Entry{Name: "room"}, api.Entry{Name: "room"})
	var shapes [][]int
	for i := range f.Entries {
		shape := append(slices.Clone(entries[i].Shape), -7, -8)
		shapes = append(shapes, shape)
		entries[i].Shape = shape[:len(shape)-2]
	}
	f.Entries = entries[:len(f.Entries)]
	return f, entries, shapes
}

// unchanged fails unless the roomy folder and its room are as they were.
func unchanged(t *testing.T, what string, f api.Folder, entries []api.Entry, shapes [][]int) {
	t.Helper()
	g, asked, lists := roomy()
	same(t, what, f, g)
	same(t, what, api.Folder{Entries: entries}, api.Folder{Entries: asked})
	for i := range lists {
		if !slices.Equal(shapes[i], lists[i]) {
			t.Errorf("%s: a shape and its room are %v", what, shapes[i])
		}
	}
}

// scribble writes over all that a folder has, and into the room behind it.
func scribble(f api.Folder) {
	for i, x := range f.Entries {
		for j := range x.Shape {
			x.Shape[j] = -99
		}
		_ = append(x.Shape, -98, -97)
		f.Entries[i] = api.Entry{Name: "scribble", No: -5}
	}
	_ = append(f.Entries, api.Entry{Name: "scribble"}, api.Entry{Name: "scribble"})
}

// spread writes over bytes, and into the room behind them.
func spread(b []byte) {
	for i := range b {
		b[i] = 0xEE
	}
	_ = append(b, 0xEE, 0xEE)
}

func TestArgumentsAreOnlyRead(t *testing.T) {
	f, entries, shapes := roomy()
	d := made(t, 50)
	folder.CheckSetting(f.Set)
	folder.Check(f)
	folder.Encode(f)
	folder.Count(shapes[0])
	folder.Tiles(shapes[0], 1)
	folder.Reach(f)
	folder.Find(f, "b_1")
	folder.Put(f, api.Entry{Name: "b_1"})
	folder.Put(f, api.Entry{Name: "aa"})
	folder.Put(f, f.Entries[2])
	folder.Commit(d, f)
	folder.Same(f, f)
	unchanged(t, "the argument", f, entries, shapes)
	f.Entries[0].No = -5
	for _, e := range []api.Errno{folder.Check(f), folder.Commit(d, f)} {
		want(t, "not valid", e, api.ErrFolder)
	}
	f.Entries[0].No = 3
	unchanged(t, "an argument that is not valid", f, entries, shapes)
}

func TestEncodeAnswersNewMemory(t *testing.T) {
	f, entries, shapes := roomy()
	asked := laid(f)
	b, _ := folder.Encode(f)
	again, _ := folder.Encode(f)
	spread(b)
	unchanged(t, "behind a change of the answer", f, entries, shapes)
	holds(t, "another answer", again, asked)
	scribble(f)
	holds(t, "an answer behind a change of the argument", again, asked)
}

func TestDecodeAnswersNewMemory(t *testing.T) {
	room := append(laid(plain()), 7, 8, 9)
	asked := bytes.Clone(room)
	b := room[:len(room)-3]
	f, e := folder.Decode(b)
	want(t, "Decode", e, api.OK)
	g, e := folder.Decode(b)
	want(t, "Decode", e, api.OK)
	holds(t, "the argument", room, asked)
	scribble(f)
	holds(t, "the argument behind a change of the answer", room, asked)
	same(t, "another answer", g, plain())
	spread(room)
	same(t, "an answer behind a change of the argument", g, plain())
	refused(t, "the argument that was changed", b)
}

// No two lists of an answer share anything.
func TestShapesOfAnAnswerAreApart(t *testing.T) {
	shape := []int{2, 3}
	x := api.Entry{Name: "m", Shape: shape}
	f := api.Folder{Entries: []api.Entry{{Name: "a", Shape: shape}, {Name: "b", Shape: shape[:1]}, {Name: "z", Shape: shape}}}
	asked := putting(f, x)
	for i := range asked.Entries {
		g := folder.Put(f, x)
		g.Entries[i].Shape[0] = 55
		_ = append(g.Entries[i].Shape, 66)
		written := copied(asked)
		written.Entries[i].Shape[0] = 55
		same(t, "one shape was written to", g, written)
		if !slices.Equal(shape, []int{2, 3}) {
			t.Errorf("the argument's shape is %v", shape)
		}
	}
	g, e := folder.Decode(laid(filled(40)))
	want(t, "Decode", e, api.OK)
	for i := range g.Entries {
		g.Entries[i].Shape = append(g.Entries[i].Shape, i)
	}
	for i, x := range g.Entries {
		if !slices.Equal(x.Shape, []int{i}) {
			t.Errorf("the shape of entry %d is %v", i, x.Shape)
		}
	}
}

func TestListsAnswerNewMemory(t *testing.T) {
	f, entries, shapes := roomy()
	l := folder.Reach(f)
	x, _ := folder.Find(f, "a")
	scribble(api.Folder{Entries: []api.Entry{x}})
	l[0] = api.Extent{At: -1, N: -1}
	_ = append(l, api.Extent{At: -1})
	unchanged(t, "behind a change of the answers", f, entries, shapes)
	reaches(t, "the next answer", f, api.Extent{At: 60, N: 2}, api.Extent{At: 90, N: 4})
	finds(t, "the next answer", f, "a", plain().Entries[0])
	x, _ = folder.Find(f, "a")
	l = folder.Reach(f)
	scribble(f)
	if !slices.Equal(x.Shape, []int{2, 29}) || x.Name != "a" || !slices.Equal(l, []api.Extent{{At: 60, N: 2}, {At: 90, N: 4}}) {
		t.Errorf("behind a change of the argument: %v and %v", x, l)
	}
}

func TestPutAnswersNewMemory(t *testing.T) {
	for _, name := range []string{"A", "a", "aa", "b_1", "zero", "zz"} {
		f, entries, shapes := roomy()
		room := []int{1, 1, 5}
		x := api.Entry{Name: name, No: 9, Kind: api.KindNum, Shape: room[:2], At: 150, Tiles: 1}
		asked := putting(f, x)
		g, h := folder.Put(f, x), folder.Put(f, x)
		scribble(g)
		unchanged(t, "behind a change of the answer", f, entries, shapes)
		if !slices.Equal(room, []int{1, 1, 5}) {
			t.Errorf("the entry's shape and its room are %v", room)
		}
		same(t, "another answer", h, asked)
		scribble(f)
		clear(room)
		same(t, "an answer behind a change of the arguments", h, asked)
	}
}

func TestCommitKeepsNothing(t *testing.T) {
	f, entries, shapes := roomy()
	d := with(t, 50, f)
	unchanged(t, "committed", f, entries, shapes)
	scribble(f)
	has(t, "behind a change of the argument", d, plain())
}

func TestLoadAnswersNewMemory(t *testing.T) {
	d := with(t, 50, plain())
	f, e := folder.Load(d)
	want(t, "Load", e, api.OK)
	g, e := folder.Load(d)
	want(t, "Load", e, api.OK)
	scribble(f)
	same(t, "another answer", g, plain())
	has(t, "the next answer", d, plain())
	spoil(t, d, 26, full(0))
	same(t, "an answer behind a change of the disk", g, plain())
}

// Nothing comes of the zero folder, nor of no bytes.
func TestZeroFolder(t *testing.T) {
	var zero api.Folder
	want(t, "CheckSetting", folder.CheckSetting(api.Setting{}), api.ErrFolder)
	barred(t, "the zero folder", zero)
	reaches(t, "the zero folder", zero)
	misses(t, "the zero folder", zero, "a")
	puts(t, "the zero folder", zero, plain().Entries[0])
	alikeAre(t, "the zero folder", zero, api.Folder{}, true)
	alikeAre(t, "the zero folder", zero, plain(), false)
	refused(t, "no bytes", nil)
	same(t, "the zero folder", zero, api.Folder{})
}
