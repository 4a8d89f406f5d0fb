package disk_test

import (
	"slices"
	"testing"

	"quadrat/api"
	"quadrat/disk"
)

// model is the disk as the chapter's terms word it, as plainly as can be: it is what the disk is held against.
type model struct {
	durable, cached [][]byte // a sector whose cached bytes are nil is not pending
	down            bool
	armed           bool
	crash           api.Crash
	since, writes   int
}

// modelOf is a model of a new disk.
func modelOf(sectors int) *model {
	m := &model{cached: make([][]byte, sectors)}
	for range sectors {
		m.durable = append(m.durable, make([]byte, api.Sector))
	}
	return m
}

// fall lets the model go down.
func (m *model) fall(c api.Crash) {
	for at, b := range m.cached {
		for i, x := range b {
			if slices.Contains(c.Keep, at) || c.Torn == at && i < c.At {
				m.durable[at][i] = x
			}
		}
		m.cached[at] = nil
	}
	m.down, m.armed = true, false
}

// write is the model's Write.
func (m *model) write(at int, b []byte) api.Errno {
	if m.down {
		return api.ErrDown
	}
	if at < 0 || at >= len(m.durable) || len(b) != api.Sector {
		return api.ErrDisk
	}
	m.cached[at] = slices.Clone(b)
	m.writes++
	m.since++
	if m.armed && m.since == m.crash.Write {
		m.fall(m.crash)
		return api.ErrDown
	}
	return api.OK
}

// flush is the model's Flush.
func (m *model) flush() api.Errno {
	if m.down {
		return api.ErrDown
	}
	for at, b := range m.cached {
		if b != nil {
			m.durable[at], m.cached[at] = b, nil
		}
	}
	return api.OK
}

// arm is the model's Arm.
func (m *model) arm(c api.Crash) api.Errno {
	if c.Write < 1 {
		return api.ErrArg
	}
	m.armed, m.crash, m.since = true, c, 0
	return api.OK
}

// bring is the model's Down.
func (m *model) bring(c api.Crash) api.Errno {
	if m.down {
		return api.ErrDown
	}
	m.fall(c)
	return api.OK
}

// spoil is the model's Spoil.
func (m *model) spoil(at int, b []byte) api.Errno {
	if at < 0 || at >= len(m.durable) || len(b) != api.Sector {
		return api.ErrDisk
	}
	m.durable[at] = slices.Clone(b)
	return api.OK
}

// held fails unless the disk is as the model is, whatever is asked.
func (m *model) held(t *testing.T, d *disk.Disk) {
	t.Helper()
	var pending []int
	for at, b := range m.cached {
		if b != nil {
			pending = append(pending, at)
		}
	}
	waits(t, "held against the model", d, pending...)
	counted(t, "held against the model", d, m.writes)
	up(t, "held against the model", d, !m.down)
	for at := range m.durable {
		if m.down {
			_, e := d.Read(at)
			want(t, "Read", e, api.ErrDown)
		} else if m.cached[at] != nil {
			reads(t, "held against the model", d, at, m.cached[at])
		} else {
			reads(t, "held against the model", d, at, m.durable[at])
		}
	}
	for at := range m.durable {
		durable(t, "held against the model", d, at, m.durable[at])
	}
}

// noise yields numbers that look like chance and are always the same.
type noise uint32

// below is the next number, from 0 on and below n.
func (x *noise) below(n int) int {
	*x = *x*1664525 + 1013904223
	return int(*x>>8) % n
}

// crash is some crash of a disk of so many sectors; some of what it names there is not.
func (x *noise) crash(sectors int) api.Crash {
	c := api.Crash{Write: x.below(8) - 1, Torn: x.below(sectors+2) - 1, At: x.below(140) - 5}
	for range x.below(sectors + 1) {
		c.Keep = append(c.Keep, x.below(sectors+2)-1)
	}
	return c
}

// sector is a sector's bytes, or now and then one too few or too many.
func (x *noise) sector() []byte {
	n := api.Sector
	if k := x.below(30); k < 2 {
		n += 2*k - 1
	}
	b := make([]byte, n)
	for i := range b {
		b[i] = byte(x.below(256))
	}
	return b
}

// play does some next thing to both, and fails unless both answer the same.
func (x *noise) play(t *testing.T, d *disk.Disk, m *model) {
	t.Helper()
	n := len(m.durable)
	at := x.below(n+2) - 1
	switch x.below(20) {
	case 0, 1:
		want(t, "Flush", d.Flush(), m.flush())
	case 2, 3, 4:
		c := x.crash(n)
		want(t, "Arm", d.Arm(c), m.arm(c))
	case 5:
		c := x.crash(n)
		want(t, "Down", d.Down(c), m.bring(c))
	case 6, 7, 8:
		want(t, "Boot", d.Boot(), api.OK)
		m.down = false
	case 9:
		b := x.sector()
		want(t, "Spoil", d.Spoil(at, b), m.spoil(at, b))
	default:
		b := x.sector()
		want(t, "Write", d.Write(at, b), m.write(at, b))
	}
}

func TestDiskFollowsTheTerms(t *testing.T) {
	for seed := range 60 {
		x := noise(seed)
		n := 1 + seed%7
		d, m := made(t, n), modelOf(n)
		for i := range 150 {
			x.play(t, d, m)
			m.held(t, d)
			if i%40 == 39 {
				d = d.Copy() // a copy goes on as the disk would
			}
			if t.Failed() {
				t.Fatalf("seed %d, step %d", seed, i)
			}
		}
	}
}
