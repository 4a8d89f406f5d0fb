package note_test

import (
	"testing"

	"quadrat/note"
)

func TestLogsThatNewDidNotAnswer(t *testing.T) {
	var zero note.Log
	for range 2 {
		nothing(t, "nil", nil)
		nothing(t, "zero", &zero)
		nothing(t, "new", new(note.Log))
	}
}

// A log that is assigned is not the one that New answered, which goes on.
func TestLogsThatAreAssigned(t *testing.T) {
	l := made(some()...)
	mere := *l
	nothing(t, "assigned", &mere)
	var zero note.Log
	zero = *l
	nothing(t, "assigned to a zero one", &zero)
	has(t, "the one that was made", l, some()...)
}

func TestLogsThatHaveNotBegun(t *testing.T) {
	nothing(t, "no payloads", note.New(4, nil))
	nothing(t, "another statement", note.New(3, payloads(begun(4), tile(0, 0, 7), run(1, 1, 8), commit(4))))
	nothing(t, "no beginning", note.New(4, payloads(some()...)))
}
