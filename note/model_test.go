package note_test

import (
	"testing"

	"quadrat/api"
	"quadrat/note"
)

// logOf is whether the log of a statement has begun, and its notes, as the chapter words it.
func logOf(statement int, payloads [][]byte) (bool, []api.Note) {
	var l []api.Note
	for i, b := range payloads {
		if len(b) != 17 || !partsIn(b).may() {
			return i > 0, l
		}
		x := partsIn(b).note()
		if i == 0 {
			if x != begun(statement) {
				return false, nil
			}
			continue
		}
		if x.Kind == 1 {
			return true, l
		}
		l = append(l, x)
		if x.Kind == 4 || x.Kind == 5 {
			return true, l
		}
	}
	return len(payloads) > 0, l
}

// payload is one, most often that of a tile or a run of few steps.
func (r *noise) payload() []byte {
	switch r.below(40) {
	case 0:
		return strange()[r.below(len(strange()))]
	case 1:
		return laid(begun(3 + r.below(3)))
	case 2:
		return laid(commit(r.below(6)))
	case 3:
		return laid(end(r.below(3), r.below(10)))
	case 4:
		return samples()[r.below(len(samples()))]
	}
	return laid(api.Note{Kind: 2 + r.below(2), A: r.below(4), B: r.below(5), N: int64(r.below(6))})
}

// many are payloads of which the first one is often the beginning of statement 4.
func (r *noise) many() [][]byte {
	l := [][]byte{laid(begun(4))}
	if r.below(8) == 0 {
		l[0] = r.payload()
	}
	for range r.below(30) {
		l = append(l, r.payload())
	}
	return l
}

// checked fails unless a log is what the chapter says of its payloads.
func checked(t *testing.T, statement int, payloads [][]byte) (*note.Log, bool) {
	t.Helper()
	x := note.New(statement, payloads)
	is, l := logOf(statement, payloads)
	if is {
		has(t, "any payloads", x, l...)
	} else {
		nothing(t, "any payloads", x)
	}
	return x, is
}

func TestAnyPayloads(t *testing.T) {
	r := noise(7)
	many, few := 0, 0
	for range 1500 {
		if _, is := checked(t, 3+r.below(20)/8, r.many()); is {
			many++
		} else {
			few++
		}
	}
	if many < 300 || few < 300 {
		t.Errorf("%d have begun, %d not", many, few)
	}
}

// grown fails unless a log of more payloads has all that one of fewer has: its notes as the first ones, and what is complete.
func grown(t *testing.T, fewer, more *note.Log) {
	t.Helper()
	if fewer.Begun() && !more.Begun() {
		t.Error("with more payloads it has not begun")
	}
	l, longer := fewer.Notes(), more.Notes()
	if len(longer) < len(l) {
		t.Fatalf("%d notes, and with more payloads %d", len(l), len(longer))
	}
	for i, x := range l {
		if longer[i] != x {
			t.Errorf("note %d is %v, and with more payloads %v", i, x, longer[i])
		}
		if _, complete := fewer.Tile(x.A, x.B); complete {
			if _, still := more.Tile(x.A, x.B); !still {
				t.Errorf("the tile of %v is complete no more", x)
			}
		}
		if _, complete := fewer.Run(x.A, x.B); complete {
			if _, still := more.Run(x.A, x.B); !still {
				t.Errorf("the run of %v is complete no more", x)
			}
		}
		if more.Done(x.A) < fewer.Done(x.A) {
			t.Errorf("Done(%d) is %d, and with more payloads %d", x.A, fewer.Done(x.A), more.Done(x.A))
		}
	}
	if more.Steps() < fewer.Steps() {
		t.Errorf("Steps is %d, and with more payloads %d", fewer.Steps(), more.Steps())
	}
}

// What fewer payloads tell is what the first of more tell, and what is complete stays so.
func TestPrefixes(t *testing.T) {
	r := noise(11)
	for range 150 {
		l := r.many()
		var logs []*note.Log
		for count := range len(l) + 1 {
			x, _ := checked(t, 4, l[:count])
			for _, fewer := range logs {
				grown(t, fewer, x)
			}
			logs = append(logs, x)
		}
	}
}
