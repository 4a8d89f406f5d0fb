package note_test

import (
	"bytes"
	"encoding/binary"
	"math"
	"slices"
	"testing"

	"quadrat/api"
	"quadrat/note"
)

// most is the greatest A and B, as the chapter words it.
const most = 1048576

// want fails unless an error is the one that is asked for.
func want(t *testing.T, what string, got, asked api.Errno) {
	t.Helper()
	if got != asked {
		t.Errorf("%s: error %d, want %d", what, got, asked)
	}
}

// holds fails unless two lists of bytes are the same.
func holds(t *testing.T, what string, got, asked []byte) {
	t.Helper()
	if !bytes.Equal(got, asked) {
		t.Errorf("%s: % X, want % X", what, got, asked)
	}
}

// parts are what a note's bytes tell, which need not be what a note may have.
type parts struct {
	kind byte
	a, b uint32
	n    uint64
}

// bytes lays them out.
func (p parts) bytes() []byte {
	b := []byte{p.kind}
	b = binary.BigEndian.AppendUint32(b, p.a)
	b = binary.BigEndian.AppendUint32(b, p.b)
	return binary.BigEndian.AppendUint64(b, p.n)
}

// partsOf are those of a note.
func partsOf(x api.Note) parts {
	return parts{kind: byte(x.Kind), a: uint32(x.A), b: uint32(x.B), n: uint64(x.N)}
}

// laid are a note's bytes, worked out without the package.
func laid(x api.Note) []byte { return partsOf(x).bytes() }

// may says whether parts are those of a valid note, as the chapter words it.
func (p parts) may() bool {
	if p.kind == 0 || p.kind > 5 || p.a > most || p.b > most || p.n > math.MaxInt64 {
		return false
	}
	if p.kind == 1 || p.kind == 4 {
		return p.b == 0 && p.n == 0
	}
	return p.kind != 5 || p.n == 0
}

// note is the note that parts are of, if there is one.
func (p parts) note() api.Note {
	return api.Note{Kind: int(p.kind), A: int(p.a), B: int(p.b), N: int64(p.n)}
}

// The notes of each kind.
func begun(statement int) api.Note        { return api.Note{Kind: 1, A: statement} }
func tile(step, no int, n int64) api.Note { return api.Note{Kind: 2, A: step, B: no, N: n} }
func run(step, no int, n int64) api.Note  { return api.Note{Kind: 3, A: step, B: no, N: n} }
func commit(statement int) api.Note       { return api.Note{Kind: 4, A: statement} }
func end(state, e int) api.Note           { return api.Note{Kind: 5, A: state, B: e} }

// accepted fails unless a note's bytes are just what the chapter says, both ways.
func accepted(t *testing.T, what string, x api.Note) {
	t.Helper()
	b, e := note.Encode(x)
	if e != api.OK || !bytes.Equal(b, laid(x)) {
		t.Errorf("%s: Encode of %v: error %d and % X, want % X", what, x, e, b, laid(x))
	}
	decodes(t, what, laid(x), x)
}

// decodes fails unless Decode answers that note.
func decodes(t *testing.T, what string, b []byte, asked api.Note) {
	t.Helper()
	if x, e := note.Decode(b); e != api.OK || x != asked {
		t.Errorf("%s: Decode of % X: error %d and %v, want %v", what, b, e, x, asked)
	}
}

// barred fails unless Encode answers ErrNote, and nothing beside it.
func barred(t *testing.T, what string, x api.Note) {
	t.Helper()
	if b, e := note.Encode(x); e != api.ErrNote || b != nil {
		t.Errorf("%s: Encode of %v: error %d and % X, want ErrNote", what, x, e, b)
	}
}

// refused fails unless Decode answers ErrNote, and nothing beside it.
func refused(t *testing.T, what string, b []byte) {
	t.Helper()
	if x, e := note.Decode(b); e != api.ErrNote || x != (api.Note{}) {
		t.Errorf("%s: Decode of % X: error %d and %v, want ErrNote", what, b, e, x)
	}
}

// payloads are the notes' bytes.
func payloads(l ...api.Note) [][]byte {
	var all [][]byte
	for _, x := range l {
		all = append(all, laid(x))
	}
	return all
}

// made is the log of the statement 4 that has begun, and then has these notes.
func made(l ...api.Note) *note.Log {
	return note.New(4, append(payloads(begun(4)), payloads(l...)...))
}

// fileIn is the file of the last of the notes that are of that kind, step and number.
func fileIn(l []api.Note, kind, step, no int) (int64, bool) {
	for i := len(l) - 1; i >= 0; i-- {
		if l[i].Kind == kind && l[i].A == step && l[i].B == no {
			return l[i].N, true
		}
	}
	return 0, false
}

// doneIn is how many different tiles of a step the notes have.
func doneIn(l []api.Note, step int) int {
	var tiles []int
	for _, x := range l {
		if x.Kind == 2 && x.A == step && !slices.Contains(tiles, x.B) {
			tiles = append(tiles, x.B)
		}
	}
	return len(tiles)
}

// stepsIn is one more than the greatest step that the notes have a tile or a run of.
func stepsIn(l []api.Note) int {
	steps := 0
	for _, x := range l {
		if (x.Kind == 2 || x.Kind == 3) && x.A >= steps {
			steps = x.A + 1
		}
	}
	return steps
}

// around are the numbers that notes have as A or B, those beside them, and those at the edges.
func around(l []api.Note) []int {
	all := []int{math.MinInt, math.MinInt32, -most, -2, -1, 0, 1, most - 1, most, most + 1, math.MaxInt32, 1 << 32, math.MaxInt}
	for _, x := range l {
		all = append(all, x.A-1, x.A, x.A+1, x.B-1, x.B, x.B+1, x.A+1<<32, x.B+1<<32)
	}
	slices.Sort(all)
	return slices.Compact(all)
}

// has fails unless a log that has begun has just these notes, and tells just what they say.
func has(t *testing.T, what string, l *note.Log, asked ...api.Note) {
	t.Helper()
	if !l.Begun() {
		t.Errorf("%s: the log has not begun", what)
	}
	if got := l.Notes(); !slices.Equal(got, asked) {
		t.Errorf("%s: Notes are %v, want %v", what, got, asked)
	}
	if got := l.Steps(); got != stepsIn(asked) {
		t.Errorf("%s: Steps is %d, want %d", what, got, stepsIn(asked))
	}
	numbers := around(asked)
	for _, step := range numbers {
		if got := l.Done(step); got != doneIn(asked, step) {
			t.Errorf("%s: Done(%d) is %d, want %d", what, step, got, doneIn(asked, step))
		}
		for _, no := range numbers {
			finds(t, what+": Tile", l.Tile, asked, 2, step, no)
			finds(t, what+": Run", l.Run, asked, 3, step, no)
		}
	}
}

// finds fails unless Tile or Run, whichever is handed in, tells what the notes of that kind say.
func finds(t *testing.T, what string, ask func(step, no int) (int64, bool), l []api.Note, kind, step, no int) {
	t.Helper()
	got, complete := ask(step, no)
	if n, is := fileIn(l, kind, step, no); got != n || complete != is {
		t.Errorf("%s(%d, %d): %d, %v, want %d, %v", what, step, no, got, complete, n, is)
	}
}

// tells fails unless a log tells just that.
func tells(t *testing.T, what string, ask func(step, no int) (int64, bool), step, no int, n int64, is bool) {
	t.Helper()
	if got, complete := ask(step, no); got != n || complete != is {
		t.Errorf("%s(%d, %d): %d, %v, want %d, %v", what, step, no, got, complete, n, is)
	}
}

// nothing fails unless a log has not begun, or is none: all methods answer that there is nothing.
func nothing(t *testing.T, what string, l *note.Log) {
	t.Helper()
	if l.Begun() || l.Notes() != nil || l.Steps() != 0 {
		t.Errorf("%s: Begun %v, Notes %v, Steps %d", what, l.Begun(), l.Notes(), l.Steps())
	}
	for _, step := range around(nil) {
		if l.Done(step) != 0 {
			t.Errorf("%s: Done(%d) is %d", what, step, l.Done(step))
		}
		for _, no := range around(nil) {
			tells(t, what+": Tile", l.Tile, step, no, 0, false)
			tells(t, what+": Run", l.Run, step, no, 0, false)
		}
	}
}

// noise yields numbers that look like chance and are always the same.
type noise uint64

// next is the next number.
func (r *noise) next() uint64 {
	*r = *r*6364136223846793005 + 1442695040888963407
	return uint64(*r>>32) ^ uint64(*r)<<20
}

// below is the next number, from 0 on and below n.
func (r *noise) below(n int) int { return int(r.next() % uint64(n)) }
