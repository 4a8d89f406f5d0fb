package note_test

import (
	"math"
	"testing"

	"quadrat/api"
	"quadrat/note"
)

// numbers are some that a note may have as A, or as B.
func numbers() []int {
	return []int{0, 1, 2, 127, 128, 255, 256, 257, 65535, 65536, 0x010203, most - 1, most}
}

// noNumbers are some that no note may have as A, or as B. Of many of them, the last four bytes are those of a number that one may have.
func noNumbers() []int {
	return []int{most + 1, most + 2, 2 * most, 1 << 24, math.MaxInt32, 1 << 31, math.MaxUint32, 1 << 32, 1<<32 + 1, 1<<40 + 3, math.MaxInt - 1, math.MaxInt, -1, -2, -most, math.MinInt32, -1 << 32, -1<<32 + 5, math.MinInt + 1, math.MinInt}
}

// files are some numbers that a note may have as N, unless its kind has none.
func files() []int64 {
	return []int64{1, 2, 255, 256, most, most + 1, math.MaxUint32, 1 << 32, 0x0102030405060708, math.MaxInt64 - 1, math.MaxInt64}
}

// noFiles are some numbers that no note may have as N.
func noFiles() []int64 {
	return []int64{-1, -2, -256, math.MinInt32, math.MinInt64 + 1, math.MinInt64}
}

// noKinds are some that no note may have. Of some of them, the last byte is that of one that a note may have.
func noKinds() []int {
	return []int{0, 6, 7, 8, 127, 128, 255, 256, 257, 258, 259, 260, 261, 1<<32 + 2, math.MaxInt - 1, math.MaxInt, -1, -2, -250, -254, -255, -256, math.MinInt, math.MinInt + 2}
}

// The terms' own layout, byte by byte.
func TestBytesOfANote(t *testing.T) {
	b, e := note.Encode(api.Note{Kind: api.NoteTile, A: 0x010203, B: 0x0A0B0C, N: 0x1112131415161718})
	want(t, "Encode", e, api.OK)
	holds(t, "a note", b, []byte{2, 0, 1, 2, 3, 0, 0x0A, 0x0B, 0x0C, 0x11, 0x12, 0x13, 0x14, 0x15, 0x16, 0x17, 0x18})
	b, e = note.Encode(api.Note{Kind: api.NoteTile, A: 2, B: 3, N: 9})
	want(t, "Encode", e, api.OK)
	holds(t, "the example", b, []byte{2, 0, 0, 0, 2, 0, 0, 0, 3, 0, 0, 0, 0, 0, 0, 0, 9})
	b, e = note.Encode(api.Note{Kind: api.NoteRun, A: 1 << 20, B: 1 << 20, N: math.MaxInt64})
	want(t, "Encode", e, api.OK)
	holds(t, "the greatest", b, []byte{3, 0, 16, 0, 0, 0, 16, 0, 0, 127, 255, 255, 255, 255, 255, 255, 255})
	b, e = note.Encode(api.Note{Kind: api.NoteEnd, A: 2, B: 8})
	want(t, "Encode", e, api.OK)
	holds(t, "an end", b, []byte{5, 0, 0, 0, 2, 0, 0, 0, 8, 0, 0, 0, 0, 0, 0, 0, 0})
}

func TestValidNotes(t *testing.T) {
	for _, a := range numbers() {
		accepted(t, "begun", begun(a))
		accepted(t, "commit", commit(a))
		for _, b := range numbers() {
			accepted(t, "an end", end(a, b))
			accepted(t, "a tile of no file", tile(a, b, 0))
			accepted(t, "a run of no file", run(a, b, 0))
			for _, n := range files() {
				accepted(t, "a tile", tile(a, b, n))
				accepted(t, "a run", run(a, b, n))
			}
		}
	}
}

func TestKindsThatNoNoteHas(t *testing.T) {
	for _, kind := range noKinds() {
		barred(t, "a kind alone", api.Note{Kind: kind})
		barred(t, "a kind", api.Note{Kind: kind, A: 1, B: 2, N: 3})
	}
	barred(t, "the zero note", api.Note{})
}

func TestNumbersBeyondTheLimit(t *testing.T) {
	for kind := 1; kind <= 5; kind++ {
		for _, x := range noNumbers() {
			barred(t, "an A", api.Note{Kind: kind, A: x})
			barred(t, "a B", api.Note{Kind: kind, B: x})
			barred(t, "both", api.Note{Kind: kind, A: x, B: x})
			if kind == 2 || kind == 3 {
				barred(t, "an A beside others", api.Note{Kind: kind, A: x, B: 3, N: 9})
				barred(t, "a B beside others", api.Note{Kind: kind, A: 2, B: x, N: 9})
			}
		}
		for _, n := range noFiles() {
			barred(t, "an N", api.Note{Kind: kind, N: n})
			barred(t, "an N beside others", api.Note{Kind: kind, A: 2, B: 3, N: n})
		}
	}
}

// Some kinds have neither a B nor an N, and one has no N.
func TestNumbersThatAKindHasNot(t *testing.T) {
	for _, kind := range []int{1, 4} {
		for _, a := range numbers() {
			for _, b := range numbers()[1:] {
				barred(t, "a B", api.Note{Kind: kind, A: a, B: b})
			}
			for _, n := range files() {
				barred(t, "an N", api.Note{Kind: kind, A: a, N: n})
				barred(t, "a B and an N", api.Note{Kind: kind, A: a, B: 1, N: n})
			}
		}
	}
	for _, a := range numbers() {
		for _, b := range numbers() {
			for _, n := range files() {
				barred(t, "an N", api.Note{Kind: 5, A: a, B: b, N: n})
			}
		}
	}
}

func TestOtherNotesHaveOtherBytes(t *testing.T) {
	owner := make(map[string]api.Note)
	for kind := 1; kind <= 5; kind++ {
		for _, a := range numbers() {
			for _, b := range numbers() {
				for _, n := range append(files(), 0) {
					x := api.Note{Kind: kind, A: a, B: b, N: n}
					bytes, e := note.Encode(x)
					if e != api.OK {
						continue
					}
					if other, is := owner[string(bytes)]; is {
						t.Errorf("%v and %v have the same bytes", x, other)
					}
					owner[string(bytes)] = x
				}
			}
		}
	}
	if asked := 2*13 + 13*13 + 2*13*13*12; len(owner) != asked {
		t.Errorf("%d notes have bytes, want %d", len(owner), asked)
	}
}
