package journal_test

import (
	"math"
	"slices"
	"testing"

	"quadrat/api"
)

func TestExamples(t *testing.T) {
	d := made(t, 3)
	j := opened(t, d, 0, 3, 7)
	want(t, "Append", j.Append([]byte("a")), api.OK)
	want(t, "Append", j.Append([]byte("bc")), api.OK)
	if j.Len() != 2 || j.Left() != 1 {
		t.Errorf("Len %d, Left %d", j.Len(), j.Left())
	}
	finds(t, "epoch 7", d, 0, 3, 7, []byte("a"), []byte("bc"))
	finds(t, "epoch 8", d, 0, 3, 8)
	want(t, "Append", j.Append([]byte("d")), api.OK)
	want(t, "Append", j.Append([]byte("e")), api.ErrFull)
	want(t, "Append of 65 bytes", j.Append(make([]byte, 65)), api.ErrJournal)
	has(t, "at the end", j, 3, 7, []byte("a"), []byte("bc"), []byte("d"))
}

// What each Append leaves on the disk, sector by sector; what else was pending is durable with it.
func TestAppend(t *testing.T) {
	for _, epoch := range []uint64{0, 1, 256, math.MaxUint64} {
		d := made(t, 12)
		for at := range 12 {
			spoil(t, d, at, full(0xA5))
		}
		j := opened(t, d, 3, 7, epoch)
		for count, payload := range series(7) {
			has(t, "ahead of it", j, 7, epoch, series(count)...)
			want(t, "Write", d.Write(11, full(byte(count))), api.OK)
			writes := d.Writes()
			add(t, j, payload)
			if d.Writes() != writes+1 || len(d.Waits()) != 0 {
				t.Errorf("%d writes, and %v are pending", d.Writes()-writes, d.Waits())
			}
			crash(t, d, api.Crash{Torn: -1})
			for i, p := range series(count + 1) {
				reads(t, "a record", d, 3+i, laid(epoch, uint64(i+1), p))
			}
			reads(t, "what was pending", d, 11, full(byte(count)))
			for at := 0; at < 11; at++ {
				if at < 3 || at > 3+count {
					reads(t, "another sector", d, at, full(0xA5))
				}
			}
			has(t, "behind it", j, 7, epoch, series(count+1)...)
			finds(t, "opened again", d, 3, 7, epoch, series(count+1)...)
		}
	}
}

// A journal that is opened goes on where the last one was left.
func TestAppendBehindOpen(t *testing.T) {
	d := made(t, 20)
	for count, payload := range series(20) {
		j := opened(t, d, 0, 20, 9)
		has(t, "opened", j, 20, 9, series(count)...)
		add(t, j, payload)
		has(t, "one more", j, 20, 9, series(count+1)...)
	}
	full := opened(t, d, 0, 20, 9)
	want(t, "Append to a full one", full.Append(nil), api.ErrFull)
	has(t, "full", full, 20, 9, series(20)...)
}

func TestPayloadsOfAllLengths(t *testing.T) {
	d := made(t, 200)
	j := opened(t, d, 0, 198, 3)
	var asked [][]byte
	for size := range 65 {
		asked = append(asked, of(1, size), make([]byte, size), slices.Repeat([]byte{255}, size))
	}
	asked = append(asked, nil, []byte{}, []byte{0})
	add(t, j, asked...)
	has(t, "all lengths", j, 198, 3, asked...)
	finds(t, "all lengths", d, 0, 198, 3, asked...)
}

func TestAppendOfTooLongAPayload(t *testing.T) {
	for count := 0; count <= 3; count++ {
		l := begun(t, 3, series(count)...)
		want(t, "Write", l.d.Write(0, full(1)), api.OK)
		for _, size := range []int{65, 66, 88, 108, 128, 255, 256, 257, 320, 65536} {
			l.rejects(t, "too long", make([]byte, size), api.ErrJournal)
		}
	}
}

func TestAppendToAFullJournal(t *testing.T) {
	for many := 1; many < 5; many++ {
		l := begun(t, many, series(many-1)...)
		l.rejects(t, "65 bytes, and one sector", of(1, 65), api.ErrJournal)
		l.add(t, of(1, 64))
		want(t, "Write", l.d.Write(0, full(1)), api.OK)
		for _, size := range []int{0, 1, 63, 64} {
			l.rejects(t, "full", of(1, size), api.ErrFull)
		}
		l.rejects(t, "full", nil, api.ErrFull)
		l.rejects(t, "full, and 65 bytes", of(1, 65), api.ErrJournal)
		want(t, "Down", l.d.Down(api.Crash{Torn: -1}), api.OK)
		l.rejects(t, "full, and down", of(1, 64), api.ErrFull)
		l.rejects(t, "full, and down, and 65 bytes", of(1, 65), api.ErrJournal)
		want(t, "Boot", l.d.Boot(), api.OK)
		l.rejects(t, "full, and up again", nil, api.ErrFull)
		l.check(t, "full")
	}
}

func TestAppendOnADiskThatIsDown(t *testing.T) {
	for count := range 3 {
		l := begun(t, 4, series(count)...)
		want(t, "Down", l.d.Down(api.Crash{Torn: -1}), api.OK)
		l.rejects(t, "down", []byte("x"), api.ErrDown)
		l.rejects(t, "down", nil, api.ErrDown)
		l.rejects(t, "down, and 65 bytes", of(1, 65), api.ErrJournal)
		want(t, "Boot", l.d.Boot(), api.OK)
		l.check(t, "up again")
		l.add(t, []byte("y"))
		l.add(t, []byte("z"))
	}
}

// Of two journals of one range, each goes on behind the records that it knows of; the disk has what was written last.
func TestTwoJournalsOfOneRange(t *testing.T) {
	d := made(t, 6)
	one, two := opened(t, d, 1, 4, 7), opened(t, d, 1, 4, 7)
	add(t, one, []byte("a"), []byte("b"), []byte("c"))
	has(t, "the other one", two, 4, 7)
	add(t, two, []byte("x"))
	has(t, "the first one", one, 4, 7, []byte("a"), []byte("b"), []byte("c"))
	has(t, "the other one", two, 4, 7, []byte("x"))
	finds(t, "both", d, 1, 4, 7, []byte("x"), []byte("b"), []byte("c"))
	three := opened(t, d, 1, 4, 8)
	add(t, three, []byte("new"))
	finds(t, "the elder epoch", d, 1, 4, 7)
	finds(t, "the newer epoch", d, 1, 4, 8, []byte("new"))
	add(t, one, []byte("d"))
	want(t, "Append", one.Append(nil), api.ErrFull)
	finds(t, "the elder epoch", d, 1, 4, 7)
	finds(t, "the newer epoch", d, 1, 4, 8, []byte("new"))
	reads(t, "the last sector", d, 4, laid(7, 4, []byte("d")))
	add(t, two, []byte("y"))
	finds(t, "the newer epoch", d, 1, 4, 8, []byte("new"))
	reads(t, "the second sector", d, 2, laid(7, 2, []byte("y")))
}

// Journals that touch write nothing into one another, also where one is full.
func TestJournalsBesideOneAnother(t *testing.T) {
	d := made(t, 9)
	one, two, three := opened(t, d, 0, 3, 7), opened(t, d, 3, 3, 7), opened(t, d, 6, 3, 8)
	for i := range 3 {
		add(t, three, []byte{3, byte(i)})
		add(t, one, []byte{1, byte(i)})
		add(t, two, []byte{2, byte(i)})
	}
	want(t, "Append to a full one", one.Append(nil), api.ErrFull)
	finds(t, "the first", d, 0, 3, 7, []byte{1, 0}, []byte{1, 1}, []byte{1, 2})
	finds(t, "the second", d, 3, 3, 7, []byte{2, 0}, []byte{2, 1}, []byte{2, 2})
	finds(t, "the third", d, 6, 3, 8, []byte{3, 0}, []byte{3, 1}, []byte{3, 2})
	finds(t, "the first two as one", d, 0, 6, 7, []byte{1, 0}, []byte{1, 1}, []byte{1, 2})
}

// Records of elder epochs lie behind the newer ones and are not returned.
func TestElderEpochs(t *testing.T) {
	d := made(t, 10)
	for epoch := uint64(1); epoch < 9; epoch++ {
		j := opened(t, d, 1, 8, epoch)
		has(t, "a new epoch", j, 8, epoch)
		for count := range 9 - int(epoch) {
			add(t, j, of(epoch, count))
			finds(t, "some of them", d, 1, 8, epoch, records(epoch, count+1)...)
			finds(t, "the elder epoch", d, 1, 8, epoch-1)
			finds(t, "the next epoch", d, 1, 8, epoch+1)
		}
	}
}

// records are so many payloads of an epoch, each of which has as many bytes as there are before it.
func records(epoch uint64, count int) [][]byte {
	var l [][]byte
	for i := range count {
		l = append(l, of(epoch, i))
	}
	return l
}
