package folder_test

import (
	"math"
	"testing"

	"quadrat/api"
	"quadrat/folder"
)

// neighbours are folders that differ from the plain one, and from one another, in one field, or in one list.
func neighbours() []api.Folder {
	var l []api.Folder
	for _, change := range []func(f *api.Folder){
		func(f *api.Folder) { f.N++ },
		func(f *api.Folder) { f.N = math.MaxUint64 },
		func(f *api.Folder) { f.Set.Frames++ },
		func(f *api.Folder) { f.Set.Tile++ },
		func(f *api.Folder) { f.Set.Fan++ },
		func(f *api.Folder) { f.Set.Fused = false },
		func(f *api.Folder) { f.Set.Journal-- },
		func(f *api.Folder) { f.Set.Sectors++ },
		func(f *api.Folder) { f.Next++ },
		func(f *api.Folder) { f.Next = -1 },
		func(f *api.Folder) { f.Done++ },
		func(f *api.Folder) { f.State = api.Done },
		func(f *api.Folder) { f.State = api.Failed },
		func(f *api.Folder) { f.Err = api.ErrZero },
		func(f *api.Folder) { f.State, f.Err = api.Failed, api.ErrZero },
		func(f *api.Folder) { f.Len++ },
		func(f *api.Folder) { f.Sum++ },
		func(f *api.Folder) { f.Sum ^= 1 << 31 },
		func(f *api.Folder) { f.Entries = nil },
		func(f *api.Folder) { f.Entries = f.Entries[:1] },
		func(f *api.Folder) { f.Entries = f.Entries[:2] },
		func(f *api.Folder) { f.Entries = f.Entries[1:] },
		func(f *api.Folder) { f.Entries = append(f.Entries, api.Entry{}) },
		func(f *api.Folder) { f.Entries = append(f.Entries, f.Entries[2]) },
		func(f *api.Folder) { f.Entries[0], f.Entries[1] = f.Entries[1], f.Entries[0] },
	} {
		l = append(l, turned(change))
	}
	for i := range 3 {
		for _, change := range []func(x *api.Entry){
			func(x *api.Entry) { x.Name += "_" },
			func(x *api.Entry) { x.Name = "" },
			func(x *api.Entry) { x.No++ },
			func(x *api.Entry) { x.No = 100 },
			func(x *api.Entry) { x.Kind = 3 - x.Kind },
			func(x *api.Entry) { x.Shape = append(x.Shape, 1) },
			func(x *api.Entry) { x.Shape = append([]int{0}, x.Shape...) },
			func(x *api.Entry) { x.Shape = []int{7} },
			func(x *api.Entry) { x.At++ },
			func(x *api.Entry) { x.Tiles++ },
		} {
			l = append(l, turned(func(f *api.Folder) { change(&f.Entries[i]) }))
		}
	}
	return append(l, turned(func(f *api.Folder) { f.Entries[0].Shape = []int{29, 2} }), turned(func(f *api.Folder) { f.Entries[0].Shape = nil }))
}

// alikeAre fails unless Same answers that, either way round.
func alikeAre(t *testing.T, what string, a, b api.Folder, asked bool) {
	t.Helper()
	if folder.Same(a, b) != asked || folder.Same(b, a) != asked {
		t.Errorf("%s: Same of %v and %v is not %v", what, a, b, asked)
	}
}

func TestSameOfOtherFolders(t *testing.T) {
	l := append(neighbours(), plain(), api.Folder{}, bare(1))
	for i, a := range l {
		for j, b := range l {
			alikeAre(t, "others", a, copied(b), i == j)
		}
	}
}

func TestSameOfNoListsAndEmptyOnes(t *testing.T) {
	f, g := bare(1), bare(1)
	g.Entries = []api.Entry{}
	alikeAre(t, "no entries", f, g, true)
	alikeAre(t, "no entries", api.Folder{}, api.Folder{Entries: make([]api.Entry, 0, 5)}, true)
	f, g = named("a"), named("a")
	g.Entries[0].Shape = []int{}
	alikeAre(t, "no axes", f, g, true)
	f.Entries[0].Shape = []int{0}
	alikeAre(t, "an axis of 0", f, g, false)
	alikeAre(t, "an entry without anything", api.Folder{Entries: make([]api.Entry, 1)}, api.Folder{}, false)
}

func TestSameOfManyFolders(t *testing.T) {
	r := noise(6)
	others := 0
	for range 5000 {
		f := r.folder()
		g := copied(f)
		alikeAre(t, "a copy", f, g, true)
		r.change(&g)
		if equal(f, g) != folder.Same(f, g) || equal(f, g) != folder.Same(g, f) {
			t.Fatalf("Same of %v and %v", f, g)
		}
		if !equal(f, g) {
			others++
		}
	}
	if others < 3000 {
		t.Errorf("only %d were others", others)
	}
}
