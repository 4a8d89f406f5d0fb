package journal_test

import (
	"bytes"
	"encoding/binary"
	"hash/crc32"
	"math"
	"slices"
	"testing"

	"quadrat/api"
	"quadrat/disk"
	"quadrat/journal"
)

// want fails unless an error is the one that is asked for.
func want(t *testing.T, what string, got, asked api.Errno) {
	t.Helper()
	if got != asked {
		t.Errorf("%s: error %d, want %d", what, got, asked)
	}
}

// holds fails unless two lists of bytes are the same.
func holds(t *testing.T, what string, got, asked []byte) {
	t.Helper()
	if !bytes.Equal(got, asked) {
		t.Errorf("%s: % X, want % X", what, got, asked)
	}
}

// parts are what a sector tells, which need not be what a record may have.
type parts struct {
	mark                    [3]byte
	length                  byte
	epoch, number           uint64
	rest                    [88]byte
	epochAgain, numberAgain uint64
}

// partsOf are those of a record.
func partsOf(epoch, number uint64, payload []byte) parts {
	p := parts{mark: [3]byte{0x51, 0x4A, 0x01}, length: byte(len(payload)), epoch: epoch, number: number, epochAgain: epoch, numberAgain: number}
	copy(p.rest[:], payload)
	return p
}

// bytes lays them into a sector, with the right checksum.
func (p parts) bytes() []byte {
	b := append(p.mark[:], p.length)
	b = binary.BigEndian.AppendUint64(b, p.epoch)
	b = binary.BigEndian.AppendUint64(b, p.number)
	b = append(b, p.rest[:]...)
	b = binary.BigEndian.AppendUint32(b, crc32.ChecksumIEEE(b))
	b = binary.BigEndian.AppendUint64(b, p.epochAgain)
	return binary.BigEndian.AppendUint64(b, p.numberAgain)
}

// laid is a record's sector, worked out without the package.
func laid(epoch, number uint64, payload []byte) []byte {
	return partsOf(epoch, number, payload).bytes()
}

// of is a payload of so many bytes, none of which is 0, and which differs from those of other numbers around it.
func of(number uint64, size int) []byte {
	b := make([]byte, size)
	for i := range b {
		b[i] = byte(1 + (number*37+uint64(i)*11)%255)
	}
	return b
}

// series is k payloads of several lengths, each of which is fit for a record.
func series(k int) [][]byte {
	var l [][]byte
	for i := range k {
		l = append(l, of(uint64(i), []int{5, 64, 0, 1, 63, 20}[i%6]))
	}
	return l
}

// greats are some numbers that a record may have as its number, or as its epoch.
func greats() []uint64 {
	l := []uint64{1, 2, 3, 127, 128, 254, 255, 256, 257, 65535, 65536}
	for _, bit := range []int{24, 31, 32, 33, 48, 56, 63} {
		l = append(l, 1<<bit-1, 1<<bit, 1<<bit+1)
	}
	return append(l, 0x0102030405060708, math.MaxUint64-1, math.MaxUint64)
}

// accepted fails unless a record's sector is just what the chapter says, both ways.
func accepted(t *testing.T, what string, epoch, number uint64, payload []byte) {
	t.Helper()
	b, e := journal.Encode(epoch, number, payload)
	want(t, what+": Encode", e, api.OK)
	holds(t, what, b, laid(epoch, number, payload))
	decodes(t, what, laid(epoch, number, payload), epoch, number, payload)
}

// decodes fails unless Decode answers that record.
func decodes(t *testing.T, what string, b []byte, epoch, number uint64, payload []byte) {
	t.Helper()
	gotEpoch, gotNumber, gotPayload, e := journal.Decode(b)
	if e != api.OK || gotEpoch != epoch || gotNumber != number || !bytes.Equal(gotPayload, payload) {
		t.Errorf("%s: Decode: error %d and %d, %d, % X, want %d, %d, % X", what, e, gotEpoch, gotNumber, gotPayload, epoch, number, payload)
	}
}

// barred fails unless Encode answers ErrJournal, and nothing beside it.
func barred(t *testing.T, what string, epoch, number uint64, payload []byte) {
	t.Helper()
	b, e := journal.Encode(epoch, number, payload)
	if e != api.ErrJournal || len(b) > 0 {
		t.Errorf("%s: Encode: error %d and % X, want ErrJournal", what, e, b)
	}
}

// refused fails unless Decode answers ErrJournal, and nothing beside it.
func refused(t *testing.T, what string, b []byte) {
	t.Helper()
	epoch, number, payload, e := journal.Decode(b)
	if e != api.ErrJournal || epoch != 0 || number != 0 || len(payload) > 0 {
		t.Errorf("%s: Decode of % X: error %d and %d, %d, % X, want ErrJournal", what, b, e, epoch, number, payload)
	}
}

// made is a new disk of so many sectors.
func made(t *testing.T, sectors int) *disk.Disk {
	t.Helper()
	d, e := disk.New(sectors)
	if e != api.OK {
		t.Fatalf("New(%d): error %d", sectors, e)
	}
	return d
}

// opened is a journal that is opened, which must go well.
func opened(t *testing.T, d *disk.Disk, at, many int, epoch uint64) *journal.Journal {
	t.Helper()
	j, e := journal.Open(d, at, many, epoch)
	if e != api.OK || j == nil {
		t.Fatalf("Open(%d, %d, %d): error %d and %v", at, many, epoch, e, j)
	}
	return j
}

// add appends records, which must go well.
func add(t *testing.T, j *journal.Journal, payloads ...[]byte) {
	t.Helper()
	for _, payload := range payloads {
		want(t, "Append", j.Append(payload), api.OK)
	}
}

// equal says whether two lists of payloads are the same.
func equal(one, two [][]byte) bool { return slices.EqualFunc(one, two, bytes.Equal) }

// has fails unless a journal of so many sectors has just these records, of that epoch.
func has(t *testing.T, what string, j *journal.Journal, many int, epoch uint64, asked ...[]byte) {
	t.Helper()
	if got := j.Records(); !equal(got, asked) {
		t.Errorf("%s: Records are % X, want % X", what, got, asked)
	}
	if j.Len() != len(asked) || j.Left() != many-len(asked) || j.Epoch() != epoch {
		t.Errorf("%s: Len %d, Left %d, Epoch %d, want %d, %d, %d", what, j.Len(), j.Left(), j.Epoch(), len(asked), many-len(asked), epoch)
	}
}

// finds fails unless a journal that is opened has just these records.
func finds(t *testing.T, what string, d *disk.Disk, at, many int, epoch uint64, asked ...[]byte) {
	t.Helper()
	has(t, what, opened(t, d, at, many, epoch), many, epoch, asked...)
}

// fails fails unless Open answers that error, and no journal beside it.
func fails(t *testing.T, what string, d *disk.Disk, at, many int, asked api.Errno) {
	t.Helper()
	j, e := journal.Open(d, at, many, 7)
	if e != asked || j != nil {
		t.Errorf("%s: Open(%d, %d): error %d and %v, want error %d", what, at, many, e, j, asked)
	}
}

// spoil replaces what is durable of a sector.
func spoil(t *testing.T, d *disk.Disk, at int, b []byte) {
	t.Helper()
	want(t, "Spoil", d.Spoil(at, b), api.OK)
}

// lay is a new disk whose sectors from one on have just these bytes; two more lie behind them.
func lay(t *testing.T, at int, sectors ...[]byte) *disk.Disk {
	t.Helper()
	d := made(t, at+len(sectors)+2)
	for i, b := range sectors {
		spoil(t, d, at+i, b)
	}
	return d
}

// log is a journal on a disk of its own, between other sectors, with the records that it is to have.
type log struct {
	d       *disk.Disk
	j       *journal.Journal
	many    int
	records [][]byte
}

// begun is a log of so many sectors, of the epoch 7, with these records.
func begun(t *testing.T, many int, payloads ...[]byte) *log {
	t.Helper()
	d := made(t, many+4)
	l := &log{d: d, j: opened(t, d, 2, many, 7), many: many}
	for _, payload := range payloads {
		l.add(t, payload)
	}
	return l
}

// add appends a record, which must go well.
func (l *log) add(t *testing.T, payload []byte) {
	t.Helper()
	add(t, l.j, payload)
	l.records = append(l.records, payload)
	l.check(t, "appended")
}

// check fails unless the journal has the records that it is to have, also if it is opened again.
func (l *log) check(t *testing.T, what string) {
	t.Helper()
	has(t, what, l.j, l.many, 7, l.records...)
	finds(t, what+", and opened again", l.d, 2, l.many, 7, l.records...)
}

// rejects fails unless an Append answers that error, and changes neither the journal nor its disk.
func (l *log) rejects(t *testing.T, what string, payload []byte, asked api.Errno) {
	t.Helper()
	writes, waits, up := l.d.Writes(), l.d.Waits(), l.d.Up()
	want(t, what+": Append", l.j.Append(payload), asked)
	if l.d.Writes() != writes || !slices.Equal(l.d.Waits(), waits) || l.d.Up() != up {
		t.Errorf("%s: %d writes, %v wait, up is %v", what, l.d.Writes()-writes, l.d.Waits(), l.d.Up())
	}
	has(t, what, l.j, l.many, 7, l.records...)
}

// crash lets the disk go down by a crash, and boots it.
func crash(t *testing.T, d *disk.Disk, c api.Crash) {
	t.Helper()
	want(t, "Down", d.Down(c), api.OK)
	want(t, "Boot", d.Boot(), api.OK)
}

// reads fails unless a sector has just these bytes.
func reads(t *testing.T, what string, d *disk.Disk, at int, asked []byte) {
	t.Helper()
	b, e := d.Read(at)
	want(t, what+": Read", e, api.OK)
	holds(t, what, b, asked)
}

// full is a sector of one byte.
func full(x byte) []byte { return bytes.Repeat([]byte{x}, api.Sector) }

// noise yields numbers that look like chance and are always the same.
type noise uint64

// next is the next number.
func (r *noise) next() uint64 {
	*r = *r*6364136223846793005 + 1442695040888963407
	return uint64(*r>>32) ^ uint64(*r)<<20
}

// below is the next number, from 0 on and below n.
func (r *noise) below(n int) int { return int(r.next() % uint64(n)) }
