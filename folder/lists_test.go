package folder_test

import (
	"math"
	"reflect"
	"slices"
	"strings"
	"testing"

	"quadrat/api"
	"quadrat/folder"
)

// reaches fails unless Reach answers these extents.
func reaches(t *testing.T, what string, f api.Folder, asked ...api.Extent) {
	t.Helper()
	if got := folder.Reach(f); !slices.Equal(got, asked) {
		t.Errorf("%s: Reach is %v, want %v", what, got, asked)
	}
}

// lying is a folder, which need not be valid, of entries that lie there.
func lying(sectors int, extents ...[2]int) api.Folder {
	f := api.Folder{Set: api.Setting{Tile: sectors}}
	for _, x := range extents {
		f.Entries = append(f.Entries, api.Entry{At: x[0], Tiles: x[1]})
	}
	return f
}

func TestReach(t *testing.T) {
	reaches(t, "the zero folder", api.Folder{})
	reaches(t, "no files", bare(1))
	reaches(t, "a file without elements ahead of others", plain(), api.Extent{At: 60, N: 2}, api.Extent{At: 90, N: 4})
	reaches(t, "what touches is not joined", lying(2, [2]int{12, 1}, [2]int{10, 1}), api.Extent{At: 10, N: 2}, api.Extent{At: 12, N: 2})
	var asked []api.Extent
	for i := range 40 {
		asked = append(asked, api.Extent{At: 59 + 3*i, N: 3})
	}
	reaches(t, "40 files", filled(40), asked...)
}

func TestReachOfWhatIsNotValid(t *testing.T) {
	reaches(t, "the same At", lying(3, [2]int{7, 2}, [2]int{5, 1}, [2]int{7, 1}, [2]int{-1, 4}, [2]int{7, 3}, [2]int{5, 2}),
		api.Extent{At: -1, N: 12}, api.Extent{At: 5, N: 3}, api.Extent{At: 5, N: 6}, api.Extent{At: 7, N: 6}, api.Extent{At: 7, N: 3}, api.Extent{At: 7, N: 9})
	reaches(t, "Tiles of 0 or less", lying(3, [2]int{7, 0}, [2]int{5, -1}, [2]int{6, 1}, [2]int{4, math.MinInt}, [2]int{0, 0}), api.Extent{At: 6, N: 3})
	reaches(t, "Tile of 0", lying(0, [2]int{7, 1}, [2]int{5, -1}, [2]int{6, 0}, [2]int{6, math.MaxInt}))
	reaches(t, "Tile below 0", lying(-3, [2]int{7, 1}, [2]int{6, 0}, [2]int{8, -2}, [2]int{5, -1}), api.Extent{At: 5, N: 3}, api.Extent{At: 8, N: 6})
	reaches(t, "great ones", lying(1, [2]int{math.MaxInt, math.MaxInt}, [2]int{math.MinInt, math.MaxInt}), api.Extent{At: math.MinInt, N: math.MaxInt}, api.Extent{At: math.MaxInt, N: math.MaxInt})
	reaches(t, "great ones of Tile below 0", lying(-1, [2]int{1, math.MinInt + 1}, [2]int{0, -5}), api.Extent{At: 0, N: 5}, api.Extent{At: 1, N: math.MaxInt})
}

// A product that 64 bits don't hold is no number of sectors, and no other number is told for it.
func TestReachOfTooGreatProducts(t *testing.T) {
	for _, c := range [][2]int{{math.MaxInt, 2}, {math.MaxInt, 3}, {math.MaxInt, math.MaxInt}, {1 << 62, 2}, {1 << 32, 1 << 32}, {1<<32 + 1, 1<<32 + 1}, {1<<33 + 3, 1<<31 + 5}, {math.MinInt, -1}, {math.MinInt, math.MinInt}, {math.MinInt, 3}, {-1<<32 - 1, -1<<32 - 1}} {
		reaches(t, "too great", lying(c[1], [2]int{9, c[0]}, [2]int{8, 0}))
		reaches(t, "too great", lying(c[0], [2]int{9, c[1]}, [2]int{8, 0}))
	}
	reaches(t, "just not too great", lying(2, [2]int{9, math.MaxInt / 2}), api.Extent{At: 9, N: math.MaxInt - 1})
	reaches(t, "just not too great", lying(1<<31, [2]int{9, 1<<32 - 1}), api.Extent{At: 9, N: 1<<63 - 1<<31})
}

// Entries are held against each other by At alone, however many there are.
func TestReachKeepsTheOrder(t *testing.T) {
	r := noise(7)
	for range 300 {
		f := api.Folder{Set: api.Setting{Tile: 1}}
		for i := range r.below(60) {
			f.Entries = append(f.Entries, api.Entry{At: r.below(6), Tiles: i})
		}
		got := folder.Reach(f)
		if len(got) != max(0, len(f.Entries)-1) {
			t.Fatalf("%d extents of %d", len(got), len(f.Entries))
		}
		for i := 1; i < len(got); i++ {
			if one, two := got[i-1], got[i]; one.At > two.At || one.At == two.At && one.N >= two.N {
				t.Fatalf("%v is ahead of %v", one, two)
			}
		}
	}
}

// finds fails unless Find answers that entry.
func finds(t *testing.T, what string, f api.Folder, name string, asked api.Entry) {
	t.Helper()
	x, has := folder.Find(f, name)
	if !has || !equal(api.Folder{Entries: []api.Entry{x}}, api.Folder{Entries: []api.Entry{asked}}) {
		t.Errorf("%s: Find of %q: %v and %v, want %v", what, name, has, x, asked)
	}
}

// misses fails unless Find has nothing for a name.
func misses(t *testing.T, what string, f api.Folder, name string) {
	t.Helper()
	if x, has := folder.Find(f, name); has || !reflect.DeepEqual(x, api.Entry{}) {
		t.Errorf("%s: Find of %q: %v and %v", what, name, has, x)
	}
}

func TestFind(t *testing.T) {
	f := filled(40)
	for _, x := range f.Entries {
		finds(t, "each of 40", f, x.Name, x)
		misses(t, "a longer name", f, x.Name+"_")
	}
	for i, x := range plain().Entries {
		finds(t, "first, in the midst, last", plain(), x.Name, plain().Entries[i])
	}
	for _, name := range []string{"", "A", "b", "b_", "b_1_", "zer", "zero0", "B_1", "zzz", "\x00", strings.Repeat("x", 100_000)} {
		misses(t, "a name that there is not", plain(), name)
	}
	misses(t, "no files", bare(1), "a")
	misses(t, "the zero folder", api.Folder{}, "")
}

func TestFindInWhatIsNotValid(t *testing.T) {
	f := api.Folder{Entries: []api.Entry{{Name: "m", At: 1}, {Name: "a", At: 2}, {Name: "z", At: 3}, {Name: "a", At: 4}, {Name: "", At: 5, Shape: []int{-1}}, {Name: "m", At: 6}, {Name: "-", At: 7}, {Name: "b", At: 8}}}
	for name, i := range map[string]int{"m": 0, "a": 1, "z": 2, "": 4, "-": 6, "b": 7} {
		finds(t, "the first of a name", f, name, f.Entries[i])
	}
	misses(t, "a name that there is not", f, "c")
}

// putting is what Put should answer: the entries of other names, and x, in the order of names.
func putting(f api.Folder, x api.Entry) api.Folder {
	f = copied(f)
	f.Entries = slices.DeleteFunc(f.Entries, func(y api.Entry) bool { return y.Name == x.Name })
	f.Entries = append(f.Entries, x)
	slices.SortFunc(f.Entries, func(y, z api.Entry) int { return strings.Compare(y.Name, z.Name) })
	return copied(f)
}

// puts fails unless Put answers a folder with an entry in its place.
func puts(t *testing.T, what string, f api.Folder, x api.Entry) api.Folder {
	t.Helper()
	before := copied(f)
	g := folder.Put(f, x)
	same(t, what+": Put", g, putting(before, x))
	same(t, what+": the argument", f, before)
	return g
}

func TestPut(t *testing.T) {
	x := api.Entry{No: 50, Kind: api.KindChar, Shape: []int{5, 5}, At: 150, Tiles: 1}
	for _, name := range []string{"A", "a", "a0", "b", "b_1", "b_2", "c", "zer", "zero", "zero1", "zz", "", "-"} {
		x.Name = name
		puts(t, "into three", plain(), x)
		puts(t, "into none", bare(3), x)
		puts(t, "into the zero folder", api.Folder{}, x)
		puts(t, "into one", named("b_1"), x)
	}
	puts(t, "the zero entry", plain(), api.Entry{})
	puts(t, "the zero entry", puts(t, "the zero entry", api.Folder{}, api.Entry{}), api.Entry{No: 1})
}

func TestPutIntoAFolderOf40(t *testing.T) {
	for i, c := range letters[:40] {
		f := filled(40)
		g := puts(t, "replaced", f, api.Entry{Name: string(c), No: 200, Kind: api.KindNum, Shape: []int{3}, At: 7, Tiles: 9})
		if len(g.Entries) != 40 || g.Entries[i].At != 7 {
			t.Errorf("%d entries, and the one of %c is %v", len(g.Entries), c, g.Entries[i])
		}
		g = puts(t, "one more", f, api.Entry{Name: string(c) + "_", No: 41, Kind: api.KindNum, Shape: []int{0}})
		if len(g.Entries) != 41 {
			t.Errorf("%d entries", len(g.Entries))
		}
		g.Next = 42
		barred(t, "41 entries", g)
		accepted(t, "what it was put into", f)
	}
	g := puts(t, "the same entry", filled(40), filled(40).Entries[11])
	same(t, "the same entry", g, filled(40))
	accepted(t, "the same entry", g)
}

// A folder becomes the same, in whichever order its entries are put into it.
func TestPutInAnyOrder(t *testing.T) {
	r := noise(8)
	for range 200 {
		f := r.folder()
		g := f
		g.Entries = nil
		order := slices.Clone(f.Entries)
		for i := range order {
			j := i + r.below(len(order)-i)
			order[i], order[j] = order[j], order[i]
		}
		for i, x := range order {
			if i%3 == 0 {
				old := x
				old.At, old.No = 1, 1
				g = puts(t, "what is replaced", g, old)
			}
			g = puts(t, "in any order", g, x)
		}
		for _, x := range f.Entries {
			finds(t, "in any order", g, x.Name, x)
		}
		same(t, "in any order", g, f)
		accepted(t, "in any order", g)
	}
}

// Nothing panics, and nothing is added to what is not in order, but the entry.
func TestPutIntoWhatIsNotInOrder(t *testing.T) {
	r := noise(9)
	for range 2000 {
		f := r.folder()
		for range r.below(8) {
			f.Entries = append(f.Entries, api.Entry{Name: one(&r, "", "m", "a", "z", "-", "M")})
		}
		x := api.Entry{Name: one(&r, "", "m", "a", "z", "-", "b"), At: 77, Shape: []int{1}}
		g := folder.Put(f, x)
		if len(g.Entries) != len(f.Entries) && len(g.Entries) != len(f.Entries)+1 {
			t.Fatalf("%d entries became %d", len(f.Entries), len(g.Entries))
		}
		if !slices.ContainsFunc(g.Entries, func(y api.Entry) bool { return reflect.DeepEqual(x, y) }) {
			t.Fatalf("%v is not in %v", x, g)
		}
	}
}
