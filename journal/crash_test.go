package journal_test

import (
	"bytes"
	"testing"

	"quadrat/api"
	"quadrat/disk"
	"quadrat/journal"
)

// halves is what a torn sector has.
func halves(at int, cached, old []byte) []byte {
	at = min(max(at, 0), 128)
	return append(bytes.Clone(cached[:at]), old[at:]...)
}

// survives fails unless a crash in an Append leaves the records before it, and the new one just if its sector became durable; and unless the journal goes on behind that, the opened one and the one that is opened again.
func survives(t *testing.T, start *disk.Disk, before [][]byte, payload []byte, c api.Crash, became []byte) {
	t.Helper()
	d := start.Copy()
	j := opened(t, d, 2, 6, 7)
	has(t, "ahead of the crash", j, 6, 7, before...)
	behind := append(before[:len(before):len(before)], payload)
	want(t, "Arm", d.Arm(c), api.OK)
	want(t, "Append", j.Append(payload), api.ErrDown)
	has(t, "down", j, 6, 7, before...)
	want(t, "Append on a disk that is down", j.Append(payload), api.ErrDown)
	fails(t, "down", d, 2, 6, api.ErrDown)
	want(t, "Boot", d.Boot(), api.OK)
	has(t, "up again", j, 6, 7, before...)
	reads(t, "what became durable", d, 2+len(before), became)
	asked := before
	if bytes.Equal(became, laid(7, uint64(len(behind)), payload)) {
		asked = behind
	}
	finds(t, "opened again", d, 2, 6, 7, asked...)
	add(t, j, payload)
	has(t, "appended again", j, 6, 7, behind...)
	finds(t, "appended again", d, 2, 6, 7, behind...)
}

// beginnings are disks on which a journal has so many records, whose next sectors have zeros, records of an elder epoch, or something else.
func beginnings(t *testing.T, count int) []*disk.Disk {
	t.Helper()
	var l []*disk.Disk
	for _, elder := range []func(j *journal.Journal){
		func(j *journal.Journal) {},
		func(j *journal.Journal) { add(t, j, series(6)...) },
		func(j *journal.Journal) {
			for i := range uint64(6) {
				add(t, j, of(i+9, 64))
			}
		},
	} {
		d := made(t, 10)
		elder(opened(t, d, 2, 6, 6))
		add(t, opened(t, d, 2, 6, 7), series(count)...)
		l = append(l, d)
	}
	d := made(t, 10)
	for at := range 10 {
		spoil(t, d, at, full(0xA5))
	}
	add(t, opened(t, d, 2, 6, 7), series(count)...)
	return append(l, d)
}

func TestCrashInAnAppend(t *testing.T) {
	for count := range 6 {
		for _, start := range beginnings(t, count) {
			for _, payload := range [][]byte{nil, []byte("x"), make([]byte, 64), of(5, 64)} {
				at := 2 + count
				old, _ := start.Read(at)
				cached := laid(7, uint64(count+1), payload)
				survives(t, start, series(count), payload, api.Crash{Write: 1, Torn: -1}, old)
				survives(t, start, series(count), payload, api.Crash{Write: 1, Keep: []int{at - 1, at + 1}, Torn: at + 1, At: 64}, old)
				survives(t, start, series(count), payload, api.Crash{Write: 1, Keep: []int{at}, Torn: -1}, cached)
				survives(t, start, series(count), payload, api.Crash{Write: 1, Keep: []int{9, at}, Torn: at, At: 5}, cached)
				for tear := -1; tear <= 129; tear++ {
					survives(t, start, series(count), payload, api.Crash{Write: 1, Torn: at, At: tear}, halves(tear, cached, old))
				}
			}
		}
	}
}

// A crash in a later Append finds all that were appended before it.
func TestCrashInALaterAppend(t *testing.T) {
	for write := 1; write <= 6; write++ {
		for _, c := range []api.Crash{{Torn: -1}, {Torn: 1 + write, At: 64}, {Torn: 1 + write, At: 127}, {Keep: []int{1 + write}, Torn: -1}} {
			d := made(t, 10)
			j := opened(t, d, 2, 6, 7)
			c.Write = write
			want(t, "Arm", d.Arm(c), api.OK)
			add(t, j, series(write-1)...)
			want(t, "Append", j.Append([]byte("last")), api.ErrDown)
			want(t, "Boot", d.Boot(), api.OK)
			asked := series(write - 1)
			has(t, "up again", j, 6, 7, asked...)
			if len(c.Keep) > 0 {
				asked = append(asked, []byte("last"))
			}
			finds(t, "opened again", d, 2, 6, 7, asked...)
		}
	}
}

// What was appended outlasts any crash between two Appends, and the journal goes on.
func TestCrashBetweenAppends(t *testing.T) {
	for _, c := range []api.Crash{{Torn: -1}, {Torn: 2, At: 64}, {Torn: 3, At: 127}, {Keep: []int{0, 1, 2, 3, 9}, Torn: -1}} {
		l := begun(t, 6)
		for _, payload := range series(6) {
			want(t, "Write", l.d.Write(1, full(9)), api.OK)
			crash(t, l.d, c)
			l.check(t, "behind a crash")
			l.add(t, payload)
			crash(t, l.d, c)
			l.check(t, "behind another one")
		}
	}
}

// After a crash that kept the new record's sector, another payload may be appended in its place: the journal that was open does not have the record.
func TestAnotherRecordInItsPlace(t *testing.T) {
	l := begun(t, 4, []byte("a"))
	want(t, "Arm", l.d.Arm(api.Crash{Write: 1, Keep: []int{3}, Torn: -1}), api.OK)
	want(t, "Append", l.j.Append([]byte("kept")), api.ErrDown)
	want(t, "Boot", l.d.Boot(), api.OK)
	finds(t, "kept", l.d, 2, 4, 7, []byte("a"), []byte("kept"))
	l.add(t, []byte("other"))
	l.add(t, []byte("more"))
}
