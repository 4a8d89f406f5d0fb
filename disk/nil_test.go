package disk_test

import (
	"testing"

	"quadrat/api"
	"quadrat/disk"
)

// refuses fails unless each call refuses the disk.
func refuses(t *testing.T, what string, d *disk.Disk) {
	t.Helper()
	for _, at := range []int{-1, 0, 1, api.MaxSectors} {
		for _, b := range [][]byte{nil, full(1)[1:], full(1)} {
			want(t, what+": Write", d.Write(at, b), api.ErrNil)
			want(t, what+": Spoil", d.Spoil(at, b), api.ErrNil)
		}
		b, e := d.Read(at)
		want(t, what+": Read", e, api.ErrNil)
		if len(b) != 0 {
			t.Errorf("%s: Read is % X", what, b)
		}
	}
	want(t, what+": Flush", d.Flush(), api.ErrNil)
	for _, n := range []int{-1, 0, 1, 2} {
		want(t, what+": Arm", d.Arm(api.Crash{Write: n, Keep: []int{0}}), api.ErrNil)
		want(t, what+": Down", d.Down(api.Crash{Write: n, Keep: []int{0}}), api.ErrNil)
	}
	want(t, what+": Boot", d.Boot(), api.ErrNil)
	up(t, what, d, false)
	waits(t, what, d)
	counted(t, what, d, 0)
	if d.Size() != 0 {
		t.Errorf("%s: Size is %d", what, d.Size())
	}
	if d.Copy() != nil {
		t.Errorf("%s: Copy is a disk", what)
	}
}

func TestDisksThatWereNotMade(t *testing.T) {
	var zero disk.Disk
	refuses(t, "nil", nil)
	refuses(t, "zero", &zero)
	refuses(t, "zero, asked before", &zero)
	refuses(t, "new", new(disk.Disk))
	none, _ := disk.New(0)
	refuses(t, "of an error", none)
	refuses(t, "a copy of none", none.Copy())
}

// An assignment is no Copy: if it went on, it would share a part with the disk that it was assigned from.
func TestAssignedDisk(t *testing.T) {
	d := made(t, 2)
	write(t, d, 0, 1)
	assigned := *d
	refuses(t, "assigned", &assigned)
	waits(t, "the first one", d, 0)
	reads(t, "the first one", d, 0, full(1))
	reads(t, "a copy of the first one", d.Copy(), 0, full(1))
}
