package note

import (
	"iter"
	"slices"

	"quadrat/api"
)

// Log is a statement's notes; New alone makes it.
type Log struct {
	// self is the log's own place. It tells a log that New made from a zero one, and from a mere assignment.
	self  *Log
	begun bool
	notes []api.Note
	// files has the files of the tiles and runs that are complete: of each the one that was noted last.
	files map[piece]int64
	// done has how many tiles of a step are complete: files does not tell that without going through all of it.
	done map[int]int
	// steps is the greatest step that a piece is of, plus one.
	steps int
}

// piece is a tile or a run of a step, as the kind of its note says.
type piece struct{ kind, step, number int }

// New is a statement's log, out of payloads.
func New(statement int, payloads [][]byte) *Log {
	l := &Log{files: make(map[piece]int64), done: make(map[int]int)}
	l.self = l
	if begins(statement, payloads) {
		l.begun = true
		l.load(payloads[1:])
	}
	return l
}

// begins says whether payloads are those of a log of that statement which has begun. A number that no note may have is none of theirs.
func begins(statement int, payloads [][]byte) bool {
	if len(payloads) == 0 {
		return false
	}
	x, e := Decode(payloads[0])
	return e == api.OK && x.Kind == api.NoteBegun && x.A == statement
}

// load takes in the payloads behind the first one, up to where the log ends: a payload that does not go on with it is left out, but a note of how the statement ended is its last one.
func (l *Log) load(payloads [][]byte) {
reading:
	for x, e := range decoded(payloads) {
		if e != api.OK || x.Kind == api.NoteBegun {
			break reading
		}
		l.notes = append(l.notes, x)
		switch x.Kind {
		case api.NoteTile, api.NoteRun:
			l.complete(piece{kind: x.Kind, step: x.A, number: x.B}, x.N)
		default:
			break reading
		}
	}
}

// decoded yields the notes in payloads in order, each with the error of decoding it.
func decoded(payloads [][]byte) iter.Seq2[api.Note, api.Errno] {
	return func(yield func(api.Note, api.Errno) bool) {
		for _, payload := range payloads {
			x, e := Decode(payload)
			if !yield(x, e) {
				return
			}
		}
	}
}

// complete keeps a piece's file. A tile that is noted again is not one more.
func (l *Log) complete(p piece, file int64) {
	if _, again := l.files[p]; !again && p.kind == api.NoteTile {
		l.done[p.step]++
	}
	l.files[p] = file
	l.steps = max(l.steps, p.step+1)
}

// valid says whether New made l.
func (l *Log) valid() bool { return l != nil && l.self == l }

// Begun says whether the statement is.
func (l *Log) Begun() bool { return l.valid() && l.begun }

// Notes are the log's notes, the first one first.
func (l *Log) Notes() []api.Note {
	if !l.valid() {
		return nil
	}
	return slices.Clone(l.notes)
}

// Tile is the file of a tile that is complete.
func (l *Log) Tile(step, tile int) (int64, bool) {
	return l.file(piece{kind: api.NoteTile, step: step, number: tile})
}

// Run is the file of a run that is complete.
func (l *Log) Run(step, run int) (int64, bool) {
	return l.file(piece{kind: api.NoteRun, step: step, number: run})
}

// file is the file of a piece that is complete.
func (l *Log) file(p piece) (int64, bool) {
	if !l.valid() {
		return 0, false
	}
	n, complete := l.files[p]
	return n, complete
}

// Done is how many of a step's tiles are complete.
func (l *Log) Done(step int) int {
	if !l.valid() {
		return 0
	}
	return l.done[step]
}

// Steps is how many steps there are, up to the last one that has a tile or a run that is complete.
func (l *Log) Steps() int {
	if !l.valid() {
		return 0
	}
	return l.steps
}
