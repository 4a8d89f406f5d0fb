package disk_test

import (
	"math"
	"testing"

	"quadrat/api"
	"quadrat/disk"
)

func TestArmedCrash(t *testing.T) {
	for due := 1; due < 6; due++ {
		d := made(t, 8)
		write(t, d, 7, 9) // ahead of arming, so it is not counted
		want(t, "Arm", d.Arm(api.Crash{Write: due, Keep: []int{due - 1, 7}, Torn: 0, At: 4}), api.OK)
		for at := range due - 1 {
			write(t, d, at, byte(at+1))
			up(t, "ahead of the crash", d, true)
		}
		want(t, "Write", d.Write(due-1, full(byte(due))), api.ErrDown)
		up(t, "behind the crash", d, false)
		counted(t, "behind the crash", d, due+1)
		boot(t, d)
		reads(t, "kept", d, 7, full(9))
		reads(t, "the sector that was written last, kept", d, due-1, full(byte(due)))
		if due > 1 {
			reads(t, "torn", d, 0, mixed(4, 1, 0))
		}
		for at := 1; at < due-1; at++ {
			reads(t, "lost", d, at, full(0))
		}
		for range 10 { // it struck once, and is no longer armed
			write(t, d, 3, 3)
		}
	}
}

func TestArmedCrashLosesTheSectorThatIsWritten(t *testing.T) {
	for _, c := range []struct {
		crash api.Crash
		asked []byte
	}{
		{api.Crash{Torn: -1}, full(1)},
		{api.Crash{Torn: 0, At: 128}, full(1)},
		{api.Crash{Torn: 1, At: 20}, mixed(20, 2, 1)},
		{api.Crash{Torn: -1, Keep: []int{1}}, full(2)},
	} {
		d := made(t, 2)
		write(t, d, 1, 1)
		want(t, "Flush", d.Flush(), api.OK)
		c.crash.Write = 1
		want(t, "Arm", d.Arm(c.crash), api.OK)
		want(t, "Write", d.Write(1, full(2)), api.ErrDown)
		boot(t, d)
		reads(t, "written in the crash", d, 1, c.asked)
	}
}

func TestOnlyWritesThatCacheAreCounted(t *testing.T) {
	d := made(t, 2)
	want(t, "Arm", d.Arm(api.Crash{Write: 2, Torn: -1}), api.OK)
	for range 3 {
		want(t, "Write of another sector", d.Write(2, full(1)), api.ErrDisk)
		want(t, "Write of another sector", d.Write(-1, full(1)), api.ErrDisk)
		want(t, "Write of other bytes", d.Write(0, full(1)[1:]), api.ErrDisk)
		want(t, "Flush", d.Flush(), api.OK)
		_, e := d.Read(0)
		want(t, "Read", e, api.OK)
	}
	write(t, d, 0, 1)
	want(t, "Flush", d.Flush(), api.OK) // a flush does not disarm
	want(t, "Write of other bytes", d.Write(0, nil), api.ErrDisk)
	want(t, "Write", d.Write(0, full(2)), api.ErrDown)
	boot(t, d)
	reads(t, "flushed", d, 0, full(1))
}

func TestArmOfOtherWrites(t *testing.T) {
	d := made(t, 2)
	for _, n := range []int{math.MinInt, -5, -1, 0} {
		want(t, "Arm", d.Arm(api.Crash{Write: n, Keep: []int{0}}), api.ErrArg)
	}
	for at := range 2 {
		write(t, d, at, 1) // nothing is armed
	}
	want(t, "Arm", d.Arm(api.Crash{Write: 2, Keep: []int{1}, Torn: 0, At: 7}), api.OK)
	want(t, "Arm", d.Arm(api.Crash{Write: 0}), api.ErrArg) // and the one before stays as it is
	write(t, d, 1, 2)
	want(t, "Arm", d.Arm(api.Crash{Write: -1}), api.ErrArg)
	want(t, "Write", d.Write(0, full(3)), api.ErrDown)
	boot(t, d)
	reads(t, "kept", d, 1, full(2))
	reads(t, "torn", d, 0, mixed(7, 3, 0))
}

func TestArmOfAVeryLateCrash(t *testing.T) {
	d := made(t, 1)
	write(t, d, 0, 1)
	want(t, "Arm", d.Arm(api.Crash{Write: math.MaxInt}), api.OK)
	for range 1000 {
		write(t, d, 0, 2)
	}
	up(t, "long ahead of the crash", d, true)
}

func TestArmedAnew(t *testing.T) {
	d := made(t, 3)
	want(t, "Arm", d.Arm(api.Crash{Write: 2, Keep: []int{0, 1, 2}}), api.OK)
	write(t, d, 0, 1)
	want(t, "Arm anew", d.Arm(api.Crash{Write: 2, Torn: 2, At: 9}), api.OK)
	write(t, d, 1, 2) // the second one for the crash before, the first one for this
	want(t, "Write", d.Write(2, full(3)), api.ErrDown)
	boot(t, d)
	reads(t, "lost", d, 0, full(0))
	reads(t, "lost", d, 1, full(0))
	reads(t, "torn", d, 2, mixed(9, 3, 0))
	for range 5 {
		write(t, d, 0, 1) // the crash before is gone for good
	}
}

func TestArmedWhileDown(t *testing.T) {
	d := made(t, 3)
	want(t, "Down", d.Down(none()), api.OK)
	want(t, "Arm", d.Arm(api.Crash{Write: 1, Keep: []int{0}}), api.OK)
	want(t, "Arm anew", d.Arm(api.Crash{Write: 2, Keep: []int{1}}), api.OK)
	want(t, "Arm", d.Arm(api.Crash{Write: 0}), api.ErrArg)
	want(t, "Write", d.Write(0, full(1)), api.ErrDown) // of a disk that is down: not counted
	up(t, "armed", d, false)
	boot(t, d)
	write(t, d, 0, 1)
	want(t, "Write", d.Write(1, full(2)), api.ErrDown)
	boot(t, d)
	reads(t, "lost", d, 0, full(0))
	reads(t, "kept", d, 1, full(2))
}

func TestDownForgetsAnArmedCrash(t *testing.T) {
	d := made(t, 2)
	want(t, "Arm", d.Arm(api.Crash{Write: 2, Keep: []int{0, 1}}), api.OK)
	write(t, d, 0, 1)
	crash(t, d, none())
	reads(t, "lost by the crash that came, not by the one that was armed", d, 0, full(0))
	for range 5 {
		write(t, d, 1, 1)
	}
	up(t, "behind five writes", d, true)
}

func TestBootDoesNotDisarm(t *testing.T) {
	d := made(t, 2)
	want(t, "Arm", d.Arm(api.Crash{Write: 2, Torn: -1}), api.OK)
	write(t, d, 0, 1)
	want(t, "Boot of a disk that is up", d.Boot(), api.OK)
	waits(t, "booted", d, 0) // nothing is lost, either
	reads(t, "booted", d, 0, full(1))
	want(t, "Write", d.Write(1, full(1)), api.ErrDown)
}

func TestDownWhateverItsWriteIs(t *testing.T) {
	for _, n := range []int{math.MinInt, -1, 0, 1, 2, 100, math.MaxInt} {
		d := made(t, 2)
		write(t, d, 0, 1)
		write(t, d, 1, 2)
		crash(t, d, api.Crash{Write: n, Keep: []int{1}, Torn: 0, At: 10})
		reads(t, "torn", d, 0, mixed(10, 1, 0))
		reads(t, "kept", d, 1, full(2))
		counted(t, "behind Down", d, 2)
	}
}

func TestDownOfADiskThatIsDown(t *testing.T) {
	d := made(t, 2)
	write(t, d, 0, 1)
	want(t, "Down", d.Down(none()), api.OK)
	want(t, "Arm", d.Arm(api.Crash{Write: 1, Torn: -1}), api.OK)
	want(t, "Down again", d.Down(api.Crash{Keep: []int{0}}), api.ErrDown)
	boot(t, d)
	reads(t, "lost", d, 0, full(0))
	want(t, "Write", d.Write(0, full(1)), api.ErrDown) // what refused the second crash did not disarm
}

func TestCallsOfADiskThatIsDown(t *testing.T) {
	d := made(t, 2)
	write(t, d, 0, 1)
	want(t, "Down", d.Down(api.Crash{Keep: []int{0}}), api.OK)
	for _, at := range []int{-1, 0, 1, 2} { // down comes ahead of a sector that there is not
		want(t, "Write", d.Write(at, full(2)), api.ErrDown)
		want(t, "Write of other bytes", d.Write(at, nil), api.ErrDown)
		b, e := d.Read(at)
		want(t, "Read", e, api.ErrDown)
		if len(b) != 0 {
			t.Errorf("Read is % X", b)
		}
	}
	want(t, "Flush", d.Flush(), api.ErrDown)
	up(t, "down", d, false)
	waits(t, "down", d)
	counted(t, "down", d, 1)
	if d.Size() != 2 {
		t.Errorf("Size is %d", d.Size())
	}
	boot(t, d)
	reads(t, "kept", d, 0, full(1))
	reads(t, "never written", d, 1, full(0))
}

func TestTornAt(t *testing.T) {
	for _, c := range []struct{ at, stays int }{
		{math.MinInt, 0},
		{-128, 0},
		{-1, 0},
		{0, 0},
		{1, 1},
		{2, 2},
		{64, 64},
		{126, 126},
		{127, 127},
		{128, 128},
		{129, 128},
		{256, 128},
		{math.MaxInt, 128},
	} {
		d := made(t, 3)
		for at := range 3 {
			write(t, d, at, 1)
		}
		want(t, "Flush", d.Flush(), api.OK)
		for at := range 3 {
			write(t, d, at, 2)
		}
		crash(t, d, api.Crash{Torn: 1, At: c.at})
		reads(t, "torn", d, 1, mixed(c.stays, 2, 1))
		reads(t, "ahead of it", d, 0, full(1))
		reads(t, "behind it", d, 2, full(1))
	}
}

// A crash may name sectors as it likes: what counts is whether a pending one is among them.
func TestWhatACrashNames(t *testing.T) {
	for _, c := range []struct {
		what  string
		crash api.Crash
		asked [4][]byte // sectors 0 and 2 are pending, with bytes 2; all have durable bytes 1
	}{
		{"nothing", api.Crash{Torn: -1}, [4][]byte{full(1), full(1), full(1), full(1)}},
		{"the zero crash", api.Crash{}, [4][]byte{full(1), full(1), full(1), full(1)}},
		{"one twice", api.Crash{Keep: []int{2, 2}, Torn: -1}, [4][]byte{full(1), full(1), full(2), full(1)}},
		{"one twice, others between", api.Crash{Keep: []int{2, 1, 0, 2}, Torn: -1}, [4][]byte{full(2), full(1), full(2), full(1)}},
		{"one that is not pending", api.Crash{Keep: []int{1}, Torn: -1}, [4][]byte{full(1), full(1), full(1), full(1)}},
		{"sectors that there are not", api.Crash{Keep: []int{-1, 4, 5000, math.MinInt, math.MaxInt, 0}, Torn: -1}, [4][]byte{full(2), full(1), full(1), full(1)}},
		{"torn, and kept", api.Crash{Keep: []int{2}, Torn: 2, At: 5}, [4][]byte{full(1), full(1), full(2), full(1)}},
		{"torn, and kept, and none of it", api.Crash{Keep: []int{0, 2}, Torn: 0, At: -1}, [4][]byte{full(2), full(1), full(2), full(1)}},
		{"torn, and another kept", api.Crash{Keep: []int{2}, Torn: 0, At: 5}, [4][]byte{mixed(5, 2, 1), full(1), full(2), full(1)}},
		{"torn, not pending", api.Crash{Torn: 1, At: 5}, [4][]byte{full(1), full(1), full(1), full(1)}},
		{"torn, not pending, all of it", api.Crash{Torn: 3, At: 128}, [4][]byte{full(1), full(1), full(1), full(1)}},
		{"torn, no sector", api.Crash{Torn: 4, At: 128}, [4][]byte{full(1), full(1), full(1), full(1)}},
		{"torn, far away", api.Crash{Torn: math.MaxInt, At: 128}, [4][]byte{full(1), full(1), full(1), full(1)}},
		{"torn, all of it", api.Crash{Torn: 2, At: 128}, [4][]byte{full(1), full(1), full(2), full(1)}},
		{"all", api.Crash{Keep: []int{3, 2, 1, 0}, Torn: -1}, [4][]byte{full(2), full(1), full(2), full(1)}},
	} {
		for _, arm := range []bool{false, true} {
			d := made(t, 4)
			for at := range 4 {
				write(t, d, at, 1)
			}
			want(t, "Flush", d.Flush(), api.OK)
			write(t, d, 2, 2)
			fall(t, d, c.crash, arm)
			for at := range 4 {
				reads(t, c.what, d, at, c.asked[at])
			}
		}
	}
}

// fall writes sector 0 with bytes 2 and brings the disk down by a crash, an armed one or not, and boots it.
func fall(t *testing.T, d *disk.Disk, c api.Crash, arm bool) {
	t.Helper()
	if !arm {
		write(t, d, 0, 2)
		crash(t, d, c)
		return
	}
	c.Write = 1
	want(t, "Arm", d.Arm(c), api.OK)
	want(t, "Write", d.Write(0, full(2)), api.ErrDown)
	boot(t, d)
}

func TestCrashAfterCrash(t *testing.T) {
	d := made(t, 2)
	write(t, d, 0, 1)
	crash(t, d, api.Crash{Torn: 0, At: 100})
	write(t, d, 0, 2)
	crash(t, d, api.Crash{Torn: 0, At: 50})
	reads(t, "torn twice", d, 0, append(mixed(50, 2, 1)[:100], make([]byte, 28)...))
	crash(t, d, api.Crash{Keep: []int{0, 1}})
	reads(t, "nothing was pending", d, 1, full(0))
}
