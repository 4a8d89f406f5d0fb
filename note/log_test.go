package note_test

import (
	"math"
	"slices"
	"strconv"
	"testing"

	"quadrat/api"
	"quadrat/note"
)

// some are notes that a log may have behind its first one, none of which ends it.
func some() []api.Note {
	return []api.Note{tile(0, 0, 7), tile(0, 1, 7), run(1, 0, 8), tile(2, 5, 9)}
}

// strange are payloads that are no valid note.
func strange() [][]byte {
	l := [][]byte{
		nil, {}, {0}, {2}, []byte("note"), make([]byte, 17), make([]byte, 64), slices.Repeat([]byte{255}, 17),
		laid(tile(1, 1, 7))[:16], append(laid(tile(1, 1, 7)), 0), append([]byte{2}, laid(tile(1, 1, 7))...), append(laid(begun(4)), 0), laid(commit(4))[:16],
	}
	for _, p := range []parts{
		{kind: 0, a: 1, b: 1, n: 7}, {kind: 6, a: 1, b: 1, n: 7}, {kind: 255, a: 1},
		{kind: 2, a: most + 1, b: 1, n: 7}, {kind: 3, a: 1, b: most + 1, n: 7}, {kind: 2, a: 1, b: 1, n: 1 << 63}, {kind: 3, a: 1, b: 1, n: math.MaxUint64},
		{kind: 1, a: 4, b: 1}, {kind: 1, a: 4, n: 1}, {kind: 4, a: 4, b: 1}, {kind: 4, a: 4, n: 1}, {kind: 5, a: 1, b: 3, n: 1}, {kind: 5, a: most + 1},
	} {
		l = append(l, p.bytes())
	}
	return l
}

func TestExamples(t *testing.T) {
	var l [][]byte
	for _, x := range []api.Note{{Kind: api.NoteBegun, A: 4}, {Kind: api.NoteTile, A: 0, B: 0, N: 7}} {
		b, e := note.Encode(x)
		want(t, "Encode", e, api.OK)
		l = append(l, b)
	}
	has(t, "its statement", note.New(4, l), tile(0, 0, 7))
	tells(t, "Tile", note.New(4, l).Tile, 0, 0, 7, true)
	tells(t, "Tile", note.New(4, l).Tile, 0, 1, 0, false)
	nothing(t, "another statement", note.New(5, l))
	barred(t, "a kind of 6", api.Note{Kind: 6})
	barred(t, "begun with a B", api.Note{Kind: api.NoteBegun, B: 1})
}

func TestLogsOfNoPayloads(t *testing.T) {
	for _, statement := range []int{0, 1, 4, most, most + 1, -1, math.MaxInt, math.MinInt} {
		nothing(t, "nil", note.New(statement, nil))
		nothing(t, "none", note.New(statement, [][]byte{}))
		nothing(t, "one of no bytes", note.New(statement, [][]byte{nil}))
		nothing(t, "one of no bytes", note.New(statement, [][]byte{{}}))
		nothing(t, "several of no bytes", note.New(statement, [][]byte{{}, nil, {}}))
	}
	if note.New(0, nil) == nil {
		t.Error("there is no log")
	}
}

func TestLogsOfOnePayload(t *testing.T) {
	for _, statement := range []int{0, 1, 4, 255, 256, most - 1, most} {
		has(t, "its statement", note.New(statement, payloads(begun(statement))))
	}
}

// A log that has begun, and then has notes, has them if it is its statement's, and has nothing otherwise.
func TestStatements(t *testing.T) {
	for _, statement := range []int{0, 1, 4, 255, 256, most - 1, most} {
		l := payloads(append([]api.Note{begun(statement)}, some()...)...)
		has(t, "its statement", note.New(statement, l), some()...)
		for _, other := range []int{statement - 1, statement + 1, -statement - 1, statement + 256, statement + 1<<32, statement - 1<<32, statement + 1<<40, math.MinInt + statement, math.MaxInt - statement, most + 1, -1} {
			nothing(t, "the statement "+strconv.Itoa(other), note.New(other, l))
		}
	}
}

// Of a statement whose number no note may have, no log begins, even if the first payload tells of it.
func TestStatementsThatNoNoteMayHave(t *testing.T) {
	for _, statement := range noNumbers() {
		p := parts{kind: 1, a: uint32(statement)}
		l := append([][]byte{p.bytes()}, payloads(some()...)...)
		nothing(t, "such a statement", note.New(statement, l))
		nothing(t, "such a statement alone", note.New(statement, l[:1]))
		nothing(t, "the notes of another one", note.New(statement, payloads(append([]api.Note{begun(4)}, some()...)...)))
	}
}

func TestFirstPayloadsThatAreNoNote(t *testing.T) {
	for i, payload := range strange() {
		what := "strange payload " + strconv.Itoa(i)
		for _, statement := range []int{0, 1, 4, most + 1} {
			nothing(t, what, note.New(statement, [][]byte{payload}))
			nothing(t, what+" ahead of notes", note.New(statement, append([][]byte{payload}, payloads(some()...)...)))
			nothing(t, what+" ahead of a beginning", note.New(statement, append([][]byte{payload}, payloads(append([]api.Note{begun(statement)}, some()...)...)...)))
		}
	}
}

func TestFirstPayloadsOfAnotherKind(t *testing.T) {
	for _, x := range []api.Note{tile(4, 0, 0), tile(4, 4, 4), run(4, 0, 0), commit(4), end(4, 0), end(1, 4)} {
		nothing(t, "another kind", note.New(4, payloads(x)))
		nothing(t, "another kind ahead of a beginning", note.New(4, payloads(append([]api.Note{x, begun(4)}, some()...)...)))
		nothing(t, "another kind ahead of notes", note.New(4, payloads(append([]api.Note{x}, some()...)...)))
	}
	nothing(t, "another statement ahead of a beginning", note.New(4, payloads(append([]api.Note{begun(3), begun(4)}, some()...)...)))
}

func TestNotesInOrder(t *testing.T) {
	for _, l := range [][]api.Note{
		nil,
		some(),
		{tile(0, 0, 0)},
		{run(0, 0, 0)},
		{tile(0, 0, 7), run(0, 0, 7), tile(0, 0, 7), run(0, 0, 7)},
		{tile(9, 9, 1), tile(0, 0, 2), run(5, 5, 3), tile(9, 9, 4), run(most, most, math.MaxInt64), tile(most, most, math.MaxInt64)},
	} {
		has(t, "notes", made(l...), l...)
	}
}

// A log ends ahead of what is no valid note, whatever lies behind it.
func TestPayloadsThatAreNoNote(t *testing.T) {
	for i, payload := range strange() {
		what := "strange payload " + strconv.Itoa(i)
		for count := range len(some()) + 1 {
			first := append([]api.Note{begun(4)}, some()[:count]...)
			l := append(payloads(first...), payload)
			has(t, what, note.New(4, l), some()[:count]...)
			has(t, what+" ahead of notes", note.New(4, append(l, payloads(tile(0, 0, 99), tile(0, 9, 99), run(1, 0, 99), run(most, 1, 99))...)), some()[:count]...)
			has(t, what+" ahead of an end", note.New(4, append(l, payloads(commit(4), end(1, 1))...)), some()[:count]...)
			has(t, what+" twice", note.New(4, append(l, payload, payload)), some()[:count]...)
			has(t, what+" ahead of the same ones", note.New(4, append(l, payloads(first...)...)), some()[:count]...)
		}
	}
}

// A log ends ahead of a note that a statement began, be it the same one.
func TestBeginningsBehindTheFirst(t *testing.T) {
	for _, statement := range []int{0, 3, 4, 5, most} {
		for count := range len(some()) + 1 {
			l := slices.Concat(some()[:count], []api.Note{begun(statement)})
			has(t, "begun again", made(l...), some()[:count]...)
			has(t, "begun again, ahead of notes", made(append(l, tile(0, 0, 99), tile(0, 9, 99), run(most, 1, 99), commit(4))...), some()[:count]...)
			has(t, "begun twice again", made(append(l, begun(4), tile(0, 9, 99))...), some()[:count]...)
		}
	}
}

// A log ends with a note of how the statement ended, and has it.
func TestEnds(t *testing.T) {
	for _, x := range []api.Note{commit(4), commit(0), commit(3), commit(most), end(0, 0), end(1, 0), end(2, 8), end(most, most)} {
		for count := range len(some()) + 1 {
			l := slices.Concat(some()[:count], []api.Note{x})
			has(t, "an end", made(l...), l...)
			for _, behind := range [][]api.Note{
				{tile(0, 0, 99), tile(0, 9, 99), run(1, 0, 99), run(most, 1, 99)},
				{x}, {commit(4)}, {end(2, 3)}, {begun(4), tile(0, 9, 99)},
			} {
				has(t, "an end ahead of others", made(append(l, behind...)...), l...)
			}
			for _, payload := range strange() {
				has(t, "an end ahead of a strange payload", note.New(4, append(payloads(append([]api.Note{begun(4)}, l...)...), payload)), l...)
			}
		}
	}
}
