package disk_test

import (
	"slices"
	"testing"

	"quadrat/api"
)

func TestWriteAndSpoilDoNotKeepTheirArguments(t *testing.T) {
	d := made(t, 2)
	b := full(1)
	want(t, "Write", d.Write(0, b), api.OK)
	want(t, "Spoil", d.Spoil(1, b), api.OK)
	for i, x := range b {
		if x != 1 {
			t.Fatalf("byte %d of the argument is now %d", i, x)
		}
	}
	clear(b)
	reads(t, "written", d, 0, full(1))
	reads(t, "spoilt", d, 1, full(1))
	want(t, "Flush", d.Flush(), api.OK)
	reads(t, "flushed", d, 0, full(1))
}

func TestReadAnswersNewMemory(t *testing.T) {
	d := made(t, 2)
	write(t, d, 0, 1)
	for _, what := range []string{"pending", "durable"} {
		one, _ := d.Read(0)
		two, _ := d.Read(0)
		clear(one)
		_ = append(one, 7, 7)
		if !slices.Equal(two, full(1)) {
			t.Errorf("%s: two answers share memory", what)
		}
		reads(t, what, d, 0, full(1))
		reads(t, what+", its neighbour", d, 1, full(0))
		want(t, "Flush", d.Flush(), api.OK)
	}
}

func TestAnswersStayAsTheyAre(t *testing.T) {
	d := made(t, 2)
	write(t, d, 0, 1)
	b, _ := d.Read(0)
	l := d.Waits()
	write(t, d, 0, 2)
	write(t, d, 1, 2)
	want(t, "Flush", d.Flush(), api.OK)
	want(t, "Spoil", d.Spoil(0, full(3)), api.OK)
	if !slices.Equal(b, full(1)) || !slices.Equal(l, []int{0}) {
		t.Errorf("answers of before are now % X and %v", b, l)
	}
}

func TestWaitsAnswersNewMemory(t *testing.T) {
	d := made(t, 3)
	write(t, d, 2, 1)
	write(t, d, 1, 1)
	one, two := d.Waits(), d.Waits()
	one[0], one[1] = 0, 0
	_ = append(one[:0], 5)
	if !slices.Equal(two, []int{1, 2}) {
		t.Error("two answers share memory")
	}
	waits(t, "after a change of an answer", d, 1, 2)
}

func TestArmAndDownDoNotKeepTheirArguments(t *testing.T) {
	d := made(t, 3)
	keep := []int{2, 1}
	want(t, "Arm", d.Arm(api.Crash{Write: 3, Keep: keep, Torn: -1}), api.OK)
	keep[0], keep[1] = 0, 0
	write(t, d, 0, 1)
	write(t, d, 1, 1)
	want(t, "Write", d.Write(2, full(1)), api.ErrDown)
	boot(t, d)
	for at := range 3 {
		reads(t, "armed", d, at, full(byte(min(at, 1))))
	}
	keep = []int{2, 0, 2}
	write(t, d, 0, 2)
	crash(t, d, api.Crash{Keep: keep, Torn: -1})
	if !slices.Equal(keep, []int{2, 0, 2}) {
		t.Errorf("the argument is now %v", keep)
	}
	reads(t, "brought down", d, 0, full(2))
}

func TestCopyIsInTheSameState(t *testing.T) {
	d := made(t, 4)
	write(t, d, 0, 1)
	want(t, "Flush", d.Flush(), api.OK)
	write(t, d, 0, 2)
	write(t, d, 3, 3)
	want(t, "Arm", d.Arm(api.Crash{Write: 3, Keep: []int{3}, Torn: 0, At: 6}), api.OK)
	write(t, d, 1, 4)
	c := d.Copy()
	up(t, "a copy", c, true)
	waits(t, "a copy", c, 0, 1, 3)
	counted(t, "a copy", c, 4)
	reads(t, "a copy", c, 0, full(2))
	reads(t, "a copy", c, 2, full(0))
	reads(t, "a copy", c, 3, full(3))
	write(t, c, 2, 5) // the second of three: a copy counts on from where the first one was
	want(t, "Write", c.Write(2, full(6)), api.ErrDown)
	counted(t, "a copy", c, 6)
	down := c.Copy()
	up(t, "a copy of one that is down", down, false)
	boot(t, down)
	reads(t, "a copy, torn", down, 0, mixed(6, 2, 1))
	reads(t, "a copy, lost", down, 1, full(0))
	reads(t, "a copy, kept", down, 3, full(3))
	up(t, "one whose copy was booted", c, false)
}

func TestCopyIsIndependent(t *testing.T) {
	d := made(t, 3)
	write(t, d, 0, 1)
	want(t, "Flush", d.Flush(), api.OK)
	write(t, d, 1, 1)
	want(t, "Arm", d.Arm(api.Crash{Write: 2, Keep: []int{0}}), api.OK)
	c := d.Copy()
	write(t, c, 1, 7)
	want(t, "Spoil", c.Spoil(0, full(7)), api.OK)
	want(t, "Write", c.Write(2, full(7)), api.ErrDown)
	up(t, "the first one", d, true)
	waits(t, "the first one", d, 1)
	counted(t, "the first one", d, 2)
	reads(t, "the first one", d, 0, full(1))
	reads(t, "the first one", d, 1, full(1))
	again := d.Copy()
	want(t, "Flush", d.Flush(), api.OK)
	want(t, "Spoil", d.Spoil(2, full(8)), api.OK)
	write(t, d, 0, 8)
	want(t, "Write", d.Write(1, full(8)), api.ErrDown)
	up(t, "a copy", again, true)
	waits(t, "a copy", again, 1)
	reads(t, "a copy", again, 0, full(1))
	reads(t, "a copy", again, 2, full(0))
	want(t, "Boot of a copy", c.Boot(), api.OK)
	up(t, "the first one", d, false)
}

func TestArmedCopiesAreIndependent(t *testing.T) {
	d := made(t, 2)
	want(t, "Arm", d.Arm(api.Crash{Write: 1, Keep: []int{0}}), api.OK)
	c := d.Copy()
	want(t, "Arm of a copy", c.Arm(api.Crash{Write: 2, Torn: -1}), api.OK)
	want(t, "Write", d.Write(0, full(1)), api.ErrDown)
	boot(t, d)
	reads(t, "kept", d, 0, full(1))
	write(t, d, 0, 2)
	write(t, c, 0, 2)
	want(t, "Write of a copy", c.Write(0, full(2)), api.ErrDown)
	boot(t, c)
	reads(t, "a copy, lost", c, 0, full(0))
}
