package root_test

import (
	"slices"
	"testing"

	"quadrat/api"
	"quadrat/root"
)

func TestSaveWritesOneSectorAndFlushes(t *testing.T) {
	for _, n := range numbers() {
		d := made(t, 4)
		for at := range 4 {
			want(t, "Write", d.Write(at, full(byte(10+at))), api.OK)
		}
		save(t, d, of(n))
		if d.Writes() != 5 || len(d.Waits()) != 0 || !d.Up() {
			t.Errorf("N of %d: %d writes, %v wait", n, d.Writes(), d.Waits())
		}
		crash(t, d, api.Crash{Torn: -1})
		for at := range 4 {
			asked := full(byte(10 + at))
			if at == int(n%2) {
				asked = laid(of(n))
			}
			reads(t, "behind a crash", d, at, asked)
		}
	}
}

func TestSaveOnADiskOfOneSector(t *testing.T) {
	d := made(t, 1)
	save(t, d, of(2))
	reads(t, "saved", d, 0, laid(of(2)))
	want(t, "Write", d.Write(0, full(3)), api.OK)
	want(t, "Save into no sector", root.Save(d, of(3)), api.ErrDisk)
	if !slices.Equal(d.Waits(), []int{0}) || d.Writes() != 2 {
		t.Errorf("behind the error of the write: %d writes, %v wait", d.Writes(), d.Waits())
	}
	want(t, "Save of what is no root", root.Save(d, api.Root{N: 3, Len: -1}), api.ErrRoot)
	crash(t, d, api.Crash{Torn: -1})
	reads(t, "not flushed", d, 0, laid(of(2)))
}

// What is no root is told ahead of what the disk has to say, and nothing is written or flushed.
func TestSaveOfWhatIsNoRoot(t *testing.T) {
	for _, r := range []api.Root{{}, {N: 0, Len: 7, Sum: 7}, {N: 1, Len: -1}, {N: 2, Len: -1}, {N: 1, Len: 3073}, {N: 2, Len: 3073}, {N: 0, Len: -1}} {
		d := with(t, 3, of(1), of(2))
		want(t, "Write", d.Write(2, full(9)), api.OK)
		want(t, "Arm", d.Arm(api.Crash{Write: 1, Torn: -1}), api.OK)
		want(t, "Save", root.Save(d, r), api.ErrRoot)
		if d.Writes() != 3 || !slices.Equal(d.Waits(), []int{2}) || !d.Up() {
			t.Errorf("%v: %d writes, %v wait, up is %v", r, d.Writes(), d.Waits(), d.Up())
		}
		has(t, "as before", d, of(2), of(1))
		want(t, "Down", d.Down(api.Crash{Torn: -1}), api.OK)
		want(t, "Save on a disk that is down", root.Save(d, r), api.ErrRoot)
		want(t, "Save on no disk", root.Save(nil, r), api.ErrRoot)
	}
}

func TestSaveOnADiskThatIsDown(t *testing.T) {
	d := with(t, 2, of(1), of(2))
	want(t, "Down", d.Down(api.Crash{Torn: -1}), api.OK)
	want(t, "Save", root.Save(d, of(3)), api.ErrDown)
	want(t, "Save", root.Save(d, of(4)), api.ErrDown)
	if d.Writes() != 2 || d.Up() {
		t.Errorf("%d writes, up is %v", d.Writes(), d.Up())
	}
	want(t, "Boot", d.Boot(), api.OK)
	has(t, "as before", d, of(2), of(1))
}

// A root takes the place of the one before the last, of any other one of its parity, and of itself.
func TestSaveOverRoots(t *testing.T) {
	d := made(t, 2)
	var last api.Root
	for n := uint64(1); n < 70; n++ {
		save(t, d, of(n))
		asked := []api.Root{of(n)}
		if n > 1 {
			asked = append(asked, last)
		}
		has(t, "one after the other", d, asked...)
		last = of(n)
	}
	save(t, d, of(9))
	has(t, "a smaller one", d, of(68), of(9))
	save(t, d, of(4))
	has(t, "two smaller ones", d, of(9), of(4))
	other := api.Root{N: 9, Len: 3, Sum: 2}
	save(t, d, other)
	has(t, "the same number", d, other, of(4))
	save(t, d, other)
	has(t, "the same root", d, other, of(4))
}
