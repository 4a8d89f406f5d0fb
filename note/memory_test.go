package note_test

import (
	"bytes"
	"slices"
	"testing"

	"quadrat/api"
	"quadrat/note"
)

// spread writes over bytes, and into the room behind them.
func spread(b []byte) {
	for i := range b {
		b[i] = 0xEE
	}
	_ = append(b, 0xEE, 0xEE)
}

func TestEncodeAnswersNewMemory(t *testing.T) {
	one, e := note.Encode(tile(2, 3, 9))
	want(t, "Encode", e, api.OK)
	two, e := note.Encode(tile(2, 3, 9))
	want(t, "Encode", e, api.OK)
	spread(one)
	holds(t, "another answer", two, laid(tile(2, 3, 9)))
	accepted(t, "behind a change of the answer", tile(2, 3, 9))
}

func TestDecodeOnlyReadsItsArgument(t *testing.T) {
	for _, b := range append(samples(), strange()...) {
		room := append(bytes.Clone(b), 7, 8, 9)
		asked := bytes.Clone(room)
		x, e := note.Decode(room[:len(b)])
		holds(t, "the argument and what is behind it", room, asked)
		spread(room)
		again, other := note.Decode(b)
		if x != again || e != other {
			t.Errorf("% X: error %d and %v, then error %d and %v", b, e, x, other, again)
		}
	}
}

// rows are payloads in one list with room behind it, each of which has room behind it.
func rows(l ...[]byte) [][]byte {
	all := make([][]byte, 0, len(l)+3)
	for _, b := range l {
		all = append(all, append(make([]byte, 0, len(b)+3), b...))
	}
	return all
}

func TestNewOnlyReadsItsArgument(t *testing.T) {
	plain := append(payloads(append([]api.Note{begun(4)}, some()...)...), payloads(commit(4), tile(1, 1, 1))...)
	for _, asked := range [][][]byte{plain, append(payloads(begun(4)), strange()...), strange(), plain[1:], nil} {
		given := rows(asked...)
		for _, statement := range []int{4, 3} {
			note.New(statement, given)
			if !slices.EqualFunc(given, asked, bytes.Equal) {
				t.Errorf("the argument is % X, want % X", given, asked)
			}
			for _, b := range given {
				holds(t, "the room behind a payload", b[len(b):cap(b)], make([]byte, cap(b)-len(b)))
			}
			for _, b := range given[len(given):cap(given)] {
				holds(t, "the room behind the payloads", b, nil)
			}
		}
	}
}

func TestNewKeepsNothingOfItsArgument(t *testing.T) {
	asked := append(some(), tile(0, 0, 70), commit(4))
	given := rows(payloads(append([]api.Note{begun(4)}, asked...)...)...)
	l := note.New(4, given)
	has(t, "made", l, asked...)
	for i, b := range given {
		copy(b, laid(tile(i, i, 3)))
	}
	has(t, "behind other notes in the payloads", l, asked...)
	for _, b := range given {
		spread(b)
	}
	has(t, "behind a change of the payloads", l, asked...)
	clear(given)
	_ = append(given, laid(tile(9, 9, 9)))
	has(t, "behind a change of their list", l, asked...)
	nothing(t, "another log of it", note.New(4, given))
}

func TestNotesAnswersNewMemory(t *testing.T) {
	asked := append(some(), run(3, 3, 30), end(2, 8))
	l := made(asked...)
	one, two := l.Notes(), l.Notes()
	for i := range one {
		one[i] = tile(8, i, 99)
	}
	_ = append(one, tile(8, 8, 99))
	_ = append(one[:2], tile(8, 9, 99))
	if !slices.Equal(two, asked) {
		t.Errorf("another answer is %v", two)
	}
	has(t, "behind a change of the answer", l, asked...)
	two = append(two, tile(8, 8, 99))
	three := l.Notes()
	_ = append(three, tile(7, 7, 77))
	if x := two[len(two)-1]; x != tile(8, 8, 99) {
		t.Errorf("another answer's room has %v", x)
	}
	has(t, "behind what was appended to answers", l, asked...)
}

// Logs of the same payloads go on by themselves.
func TestLogsAreApart(t *testing.T) {
	l := payloads(append([]api.Note{begun(4)}, some()...)...)
	one := note.New(4, l)
	other := note.New(4, append(slices.Clone(l), laid(tile(0, 0, 70)), laid(tile(6, 0, 70))))
	two := note.New(4, l[:2])
	has(t, "all of them", one, some()...)
	has(t, "more", other, append(some(), tile(0, 0, 70), tile(6, 0, 70))...)
	has(t, "fewer", two, some()[:1]...)
	nothing(t, "another statement", note.New(3, l))
}
