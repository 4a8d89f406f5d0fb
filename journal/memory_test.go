package journal_test

import (
	"bytes"
	"testing"

	"quadrat/api"
	"quadrat/journal"
)

// spread writes over bytes, and into the room behind them.
func spread(b []byte) {
	for i := range b {
		b[i] = 0xEE
	}
	_ = append(b, 0xEE, 0xEE)
}

func TestEncodeOnlyReadsItsArgument(t *testing.T) {
	for _, size := range []int{0, 1, 63, 64, 65} {
		room := of(1, 200)
		b, e := journal.Encode(7, 1, room[:size])
		if size > 64 {
			want(t, "Encode", e, api.ErrJournal)
		} else {
			want(t, "Encode", e, api.OK)
			spread(b)
		}
		holds(t, "the argument and what is behind it", room, of(1, 200))
	}
	payload := of(1, 64)
	one, _ := journal.Encode(7, 1, payload)
	two, _ := journal.Encode(7, 1, payload)
	spread(one)
	spread(payload)
	holds(t, "another answer", two, laid(7, 1, of(1, 64)))
}

func TestDecodeOnlyReadsItsArgument(t *testing.T) {
	room := append(laid(7, 1, of(1, 64)), 7, 8, 9)
	asked := bytes.Clone(room)
	b := room[:128]
	_, _, payload, _ := journal.Decode(b)
	_, _, again, _ := journal.Decode(b)
	holds(t, "the argument and what is behind it", room, asked)
	spread(payload)
	holds(t, "the argument behind a change of the answer", room, asked)
	holds(t, "another answer", again, of(1, 64))
	spread(b)
	holds(t, "an answer behind a change of the argument", again, of(1, 64))
	other := bytes.Clone(b)
	refused(t, "the argument that was changed", b)
	holds(t, "an argument that is refused", b, other)
}

func TestAppendKeepsNothingOfItsArgument(t *testing.T) {
	l := begun(t, 6)
	for i, size := range []int{1, 2, 63, 64, 5} {
		room := of(uint64(i), 200)
		want(t, "Append", l.j.Append(room[:size]), api.OK)
		holds(t, "the argument and what is behind it", room, of(uint64(i), 200))
		l.records = append(l.records, of(uint64(i), size))
		l.check(t, "appended")
		spread(room)
		l.check(t, "behind a change of the argument")
	}
	long := of(9, 65)
	want(t, "Append", l.j.Append(long), api.ErrJournal)
	holds(t, "too long an argument", long, of(9, 65))
}

// One slice may be appended again and again with other bytes in it.
func TestAppendOfTheSameSlice(t *testing.T) {
	l := begun(t, 6)
	same := make([]byte, 3)
	for x := range byte(6) {
		same[1] = x
		want(t, "Append", l.j.Append(same), api.OK)
		l.records = append(l.records, []byte{0, x, 0})
	}
	l.check(t, "six times")
}

func TestRecordsAnswersNewMemory(t *testing.T) {
	for _, open := range []func(l *log) *journal.Journal{
		func(l *log) *journal.Journal { return l.j },
		func(l *log) *journal.Journal { return opened(t, l.d, 2, 8, 7) },
	} {
		l := begun(t, 8, series(6)...)
		j := open(l)
		one, two := j.Records(), j.Records()
		for _, payload := range one {
			spread(payload)
		}
		if !equal(two, series(6)) {
			t.Errorf("another answer is % X", two)
		}
		clear(one)
		_ = append(one, []byte("room"))
		_ = append(one[:2], []byte("room"))
		has(t, "behind a change of the answer", j, 8, 7, series(6)...)
		add(t, j, []byte("more"))
		if !equal(two, series(6)) {
			t.Errorf("behind an Append the answer is % X", two)
		}
		two = append(two, []byte("other"))
		has(t, "behind an Append", j, 8, 7, append(series(6), []byte("more"))...)
		finds(t, "opened again", l.d, 2, 8, 7, append(series(6), []byte("more"))...)
	}
}

// No two payloads of an answer share anything.
func TestPayloadsOfAnAnswerAreApart(t *testing.T) {
	l := begun(t, 6, series(6)...)
	got := l.j.Records()
	for i := range got {
		got[i] = append(got[i], of(uint64(i), 10)...)
	}
	for i, payload := range series(6) {
		holds(t, "a payload", got[i], append(payload, of(uint64(i), 10)...))
	}
	l.check(t, "behind it")
}

// What a journal tells hangs on its own Open and Append alone, not on what becomes of the disk, or of other journals.
func TestJournalsGoOnByThemselves(t *testing.T) {
	l := begun(t, 4, []byte("a"), []byte("b"))
	copied := opened(t, l.d.Copy(), 2, 4, 7)
	other := opened(t, l.d, 2, 4, 7)
	for at := range l.d.Size() {
		spoil(t, l.d, at, full(0))
	}
	add(t, other, []byte("c"))
	add(t, copied, []byte("d"), []byte("e"))
	want(t, "Append to a full one", copied.Append(nil), api.ErrFull)
	has(t, "the first", l.j, 4, 7, []byte("a"), []byte("b"))
	has(t, "the second", other, 4, 7, []byte("a"), []byte("b"), []byte("c"))
	has(t, "that of the copy", copied, 4, 7, []byte("a"), []byte("b"), []byte("d"), []byte("e"))
	finds(t, "the disk", l.d, 2, 4, 7)
}
