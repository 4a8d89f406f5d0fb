package disk_test

import (
	"bytes"
	"slices"
	"testing"

	"quadrat/api"
	"quadrat/disk"
)

// want fails unless an error is the one that is asked for.
func want(t *testing.T, what string, got, asked api.Errno) {
	t.Helper()
	if got != asked {
		t.Errorf("%s: error %d, want %d", what, got, asked)
	}
}

// made is a new disk of so many sectors.
func made(t *testing.T, sectors int) *disk.Disk {
	t.Helper()
	d, e := disk.New(sectors)
	if e != api.OK || d == nil {
		t.Fatalf("New(%d): error %d", sectors, e)
	}
	return d
}

// full is a sector of one byte.
func full(x byte) []byte { return bytes.Repeat([]byte{x}, api.Sector) }

// mixed is a sector that begins with so many bytes x and goes on with bytes y.
func mixed(n int, x, y byte) []byte {
	return append(bytes.Repeat([]byte{x}, n), bytes.Repeat([]byte{y}, api.Sector-n)...)
}

// write writes a sector of one byte, which must go well.
func write(t *testing.T, d *disk.Disk, at int, x byte) {
	t.Helper()
	want(t, "Write", d.Write(at, full(x)), api.OK)
}

// reads fails unless a sector has just these bytes.
func reads(t *testing.T, what string, d *disk.Disk, at int, asked []byte) {
	t.Helper()
	b, e := d.Read(at)
	want(t, what+": Read", e, api.OK)
	if !bytes.Equal(b, asked) {
		t.Errorf("%s: sector %d is % X, want % X", what, at, b, asked)
	}
}

// waits fails unless just these sectors are pending.
func waits(t *testing.T, what string, d *disk.Disk, asked ...int) {
	t.Helper()
	if got := d.Waits(); !slices.Equal(got, asked) {
		t.Errorf("%s: %v wait, want %v", what, got, asked)
	}
}

// counted fails unless so many writes were counted.
func counted(t *testing.T, what string, d *disk.Disk, asked int) {
	t.Helper()
	if got := d.Writes(); got != asked {
		t.Errorf("%s: %d writes, want %d", what, got, asked)
	}
}

// up fails unless the disk is up, or down, as is asked for.
func up(t *testing.T, what string, d *disk.Disk, asked bool) {
	t.Helper()
	if got := d.Up(); got != asked {
		t.Errorf("%s: Up is %v", what, got)
	}
}

// crash lets the disk go down by a crash, and boots it.
func crash(t *testing.T, d *disk.Disk, c api.Crash) {
	t.Helper()
	want(t, "Down", d.Down(c), api.OK)
	up(t, "behind Down", d, false)
	boot(t, d)
}

// boot boots the disk; nothing may be pending, as nothing survives a crash so.
func boot(t *testing.T, d *disk.Disk) {
	t.Helper()
	waits(t, "behind a crash", d)
	want(t, "Boot", d.Boot(), api.OK)
	up(t, "behind Boot", d, true)
}

// none is a crash that saves nothing.
func none() api.Crash { return api.Crash{Torn: -1} }

// durable fails unless a sector has just these bytes once what is pending is lost. The disk is left as it is.
func durable(t *testing.T, what string, d *disk.Disk, at int, asked []byte) {
	t.Helper()
	c := d.Copy()
	if c.Up() {
		want(t, what+": Down", c.Down(none()), api.OK)
	}
	want(t, what+": Boot", c.Boot(), api.OK)
	reads(t, what, c, at, asked)
}
