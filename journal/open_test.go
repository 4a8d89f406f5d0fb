package journal_test

import (
	"bytes"
	"math"
	"slices"
	"strconv"
	"testing"

	"quadrat/api"
	"quadrat/disk"
)

func TestOpenOnANewDisk(t *testing.T) {
	for _, sectors := range []int{1, 2, 60, 4096} {
		d := made(t, sectors)
		for _, epoch := range []uint64{0, 1, math.MaxUint64} {
			finds(t, "the whole disk", d, 0, sectors, epoch)
			finds(t, "the last sector", d, sectors-1, 1, epoch)
			finds(t, "the first sector", d, 0, 1, epoch)
		}
	}
}

// What may be no journal is told ahead of what the disk has to say.
func TestOpenOfWhatIsNoJournal(t *testing.T) {
	down := made(t, 10)
	want(t, "Down", down.Down(api.Crash{Torn: -1}), api.OK)
	for _, d := range []*disk.Disk{made(t, 10), down, nil, {}} {
		for _, many := range []int{0, -1, -2, -128, math.MinInt32, math.MinInt, math.MinInt + 1} {
			for _, at := range []int{0, 1, 9, 10, -1, math.MaxInt, math.MinInt} {
				fails(t, "no sectors", d, at, many, api.ErrJournal)
			}
		}
		for _, at := range []int{-1, -2, -128, math.MinInt32, math.MinInt, math.MinInt + 1} {
			for _, many := range []int{1, 2, 10, 11, 129, math.MaxInt} {
				fails(t, "ahead of the disk", d, at, many, api.ErrJournal)
			}
		}
	}
}

func TestOpenBeyondTheDisk(t *testing.T) {
	for _, sectors := range []int{1, 2, 10, 4096} {
		d := made(t, sectors)
		for _, at := range []int{0, sectors / 2, sectors - 1} {
			finds(t, "up to the end", d, at, sectors-at, 7)
			for _, many := range []int{sectors - at + 1, sectors - at + 2, 5000, 1 << 32, math.MaxInt - at, math.MaxInt} {
				fails(t, "beyond the end", d, at, many, api.ErrDisk)
			}
		}
		for _, at := range []int{sectors, sectors + 1, 5000, 1 << 32, math.MaxInt - 1, math.MaxInt} {
			for _, many := range []int{1, 2, 3, 5000, 1 << 32, math.MaxInt - 1, math.MaxInt} {
				fails(t, "behind the end", d, at, many, api.ErrDisk)
			}
		}
	}
}

// All sectors are read, also those behind the valid prefix: one that can't be read is an error wherever it lies.
func TestSectorsThatCanNotBeRead(t *testing.T) {
	for count := range 6 {
		d := made(t, 8)
		j := opened(t, d, 2, 6, 7)
		add(t, j, series(count)...)
		finds(t, "all can be read", d, 2, 6, 7, series(count)...)
		for many := 7; many < 10; many++ {
			fails(t, "behind the prefix", d, 2, many, api.ErrDisk)
		}
	}
	d := lay(t, 0, laid(7, 1, nil), full(9))
	fails(t, "behind one that is no record's", d, 0, 5, api.ErrDisk)
}

func TestOpenOnADiskThatIsDown(t *testing.T) {
	d := made(t, 8)
	add(t, opened(t, d, 2, 6, 7), series(3)...)
	want(t, "Down", d.Down(api.Crash{Torn: -1}), api.OK)
	fails(t, "down", d, 2, 6, api.ErrDown)
	fails(t, "down, and beyond the end", d, 2, 7, api.ErrDown)
	fails(t, "down, and behind the end", d, 8, math.MaxInt, api.ErrDown)
	want(t, "Boot", d.Boot(), api.OK)
	finds(t, "up again", d, 2, 6, 7, series(3)...)
}

func TestOpenWithoutADisk(t *testing.T) {
	var zero disk.Disk
	mere := *made(t, 10)
	for _, d := range []*disk.Disk{nil, &zero, new(disk.Disk), &mere, zero.Copy()} {
		fails(t, "no disk", d, 0, 1, api.ErrNil)
		fails(t, "no disk", d, 3, 5, api.ErrNil)
		fails(t, "no disk", d, math.MaxInt, math.MaxInt, api.ErrNil)
	}
}

// Each number of records is found, in a journal of any size, up to one that is full.
func TestPrefixes(t *testing.T) {
	for _, epoch := range []uint64{0, 1, 7, math.MaxUint64} {
		for many := 1; many <= 9; many++ {
			for count := 0; count <= many; count++ {
				d := lay(t, 3, whole(epoch, many, count)...)
				finds(t, "a prefix", d, 3, many, epoch, series(count)...)
				finds(t, "the next epoch", d, 3, many, epoch+1)
				finds(t, "the epoch before it", d, 3, many, epoch-1)
			}
		}
	}
}

// whole are so many sectors, the first of which are those of so many records.
func whole(epoch uint64, many, count int) [][]byte {
	var l [][]byte
	for i, payload := range series(count) {
		l = append(l, laid(epoch, uint64(i+1), payload))
	}
	for len(l) < many {
		l = append(l, full(0))
	}
	return l
}

// The first sectors alone are looked at, as many as the journal has.
func TestFewerSectorsThanRecords(t *testing.T) {
	d := made(t, 12)
	add(t, opened(t, d, 1, 10, 7), series(10)...)
	for many := 1; many <= 10; many++ {
		finds(t, "fewer sectors", d, 1, many, 7, series(many)...)
	}
	finds(t, "a sector ahead", d, 0, 10, 7)
	for at := 2; at <= 10; at++ {
		finds(t, "a later sector", d, at, 11-at, 7)
	}
}

// strange are sectors that may lie where the record of a number is to go on in a journal of the epoch 7, but do not go on.
func strange(number uint64) [][]byte {
	payload := []byte("next")
	turned := laid(7, number, payload)
	turned[21] ^= 4
	unlike, other, stuffed, long := partsOf(7, number, payload), partsOf(7, number, payload), partsOf(7, number, payload), partsOf(7, number, payload)
	unlike.numberAgain++
	other.epochAgain--
	stuffed.rest[87] = 1
	long.length = 65
	return [][]byte{
		full(0), full(255),
		laid(0, number, payload), laid(6, number, payload), laid(8, number, payload), laid(7+1<<32, number, payload), laid(number, 7, payload),
		laid(7, 0, payload), laid(7, number-1, payload), laid(7, number+1, payload), laid(7, number+1<<32, payload), laid(7, math.MaxUint64, payload),
		turned, unlike.bytes(), other.bytes(), stuffed.bytes(), long.bytes(),
		slices.Concat(laid(7, number, payload)[:64], make([]byte, 64)),
		slices.Concat(make([]byte, 64), laid(7, number, payload)[64:]),
		slices.Concat(laid(7, number, payload)[:127], []byte{0x55}),
		slices.Concat([]byte{0}, laid(7, number, payload)[:127]),
	}
}

// A prefix ends at the first sector that does not go on with it, whatever lies behind: the records that would go on, were the right one there, and those that would, were the sector not there.
func TestPrefixesEnd(t *testing.T) {
	for count := range 5 {
		number := uint64(count + 1)
		var behind, instead [][]byte
		for i := range uint64(4) {
			behind = append(behind, laid(7, number+1+i, []byte("behind")))
			instead = append(instead, laid(7, number+i, []byte("instead")))
		}
		for i, b := range strange(number) {
			what := "strange sector " + strconv.Itoa(i)
			for _, rest := range [][][]byte{nil, behind, instead, {b, b}} {
				sectors := slices.Concat(whole(7, count, count), [][]byte{b}, rest)
				finds(t, what, lay(t, 2, sectors...), 2, len(sectors), 7, series(count)...)
				finds(t, what, lay(t, 2, sectors...), 2, len(sectors)+1, 7, series(count)...)
				finds(t, what, lay(t, 0, sectors...), 0, len(sectors), 7, series(count)...)
			}
		}
	}
}

// Sectors that are pending are read as they are cached.
func TestSectorsThatArePending(t *testing.T) {
	d := lay(t, 2, laid(7, 1, []byte("a")), laid(7, 2, []byte("b")))
	want(t, "Write", d.Write(4, laid(7, 3, []byte("c"))), api.OK)
	finds(t, "one more is pending", d, 2, 3, 7, []byte("a"), []byte("b"), []byte("c"))
	want(t, "Write", d.Write(2, full(0)), api.OK)
	finds(t, "the first is written over", d, 2, 3, 7)
	crash(t, d, api.Crash{Torn: -1})
	finds(t, "behind a crash", d, 2, 3, 7, []byte("a"), []byte("b"))
}

// Opening changes nothing about the disk.
func TestOpenOnlyReadsTheDisk(t *testing.T) {
	d := lay(t, 2, laid(7, 1, []byte("a")), full(8), laid(6, 3, nil))
	want(t, "Write", d.Write(3, full(4)), api.OK)
	want(t, "Arm", d.Arm(api.Crash{Write: 1, Torn: -1}), api.OK)
	finds(t, "a pending sector", d, 2, 4, 7, []byte("a"))
	if d.Writes() != 1 || len(d.Waits()) != 1 || !d.Up() {
		t.Errorf("%d writes, %v wait, up is %v", d.Writes(), d.Waits(), d.Up())
	}
	want(t, "the write that the crash is armed for", d.Write(4, full(6)), api.ErrDown)
	want(t, "Boot", d.Boot(), api.OK)
	for at, b := range [][]byte{full(0), full(0), laid(7, 1, []byte("a")), full(8), laid(6, 3, nil), full(0), full(0)} {
		reads(t, "behind the crash", d, at, b)
	}
}

// If one byte of a sector is spoilt, neither its record nor a later one is found.
func TestSpoiltSectors(t *testing.T) {
	start := made(t, 8)
	add(t, opened(t, start, 1, 7, 7), series(6)...)
	for count := range 6 {
		b, _ := start.Read(1 + count)
		for at := range b {
			d := start.Copy()
			other := bytes.Clone(b)
			other[at] ^= 0x10
			spoil(t, d, 1+count, other)
			finds(t, "spoilt", d, 1, 7, 7, series(count)...)
			spoil(t, d, 1+count, b)
			finds(t, "mended", d, 1, 7, 7, series(6)...)
		}
	}
}
