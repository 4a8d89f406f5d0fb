package journal_test

import (
	"bytes"
	"testing"

	"quadrat/api"
	"quadrat/disk"
	"quadrat/journal"
)

// prefixOf is the valid prefix of sectors, worked out without the package: each sector is held against that of the record which it would have to be.
func prefixOf(t *testing.T, d *disk.Disk, at, many int, epoch uint64) [][]byte {
	t.Helper()
	var l [][]byte
	for k := range many {
		b, e := d.Read(at + k)
		want(t, "Read", e, api.OK)
		payload := b[20 : 20+min(int(b[3]), 64)]
		if !bytes.Equal(b, laid(epoch, uint64(k+1), payload)) {
			break
		}
		l = append(l, payload)
	}
	return l
}

// known is a journal that is open, with what it is to tell.
type known struct {
	j        *journal.Journal
	at, many int
	epoch    uint64
	records  [][]byte
}

// play is a disk with the journals that are open on it.
type play struct {
	noise
	d              *disk.Disk
	open           []*known
	appended, down int
}

// start opens a journal somewhere.
func (p *play) start(t *testing.T) {
	t.Helper()
	x := &known{at: p.below(3) * 4, many: 1 + p.below(8), epoch: uint64(p.below(3))}
	x.many = min(x.many, 12-x.at)
	x.j = opened(t, p.d, x.at, x.many, x.epoch)
	x.records = prefixOf(t, p.d, x.at, x.many, x.epoch)
	p.open = append(p.open, x)
}

// append appends to one of the journals that are open, sometimes with a crash in the write.
func (p *play) append(t *testing.T) {
	t.Helper()
	x, payload := p.open[p.below(len(p.open))], of(p.next(), p.below(68))
	asked, crashes := api.OK, p.below(4) == 0
	switch {
	case len(payload) > 64:
		asked = api.ErrJournal
	case len(x.records) == x.many:
		asked = api.ErrFull
	case crashes:
		asked = api.ErrDown
		c := api.Crash{Write: 1, Torn: x.at + len(x.records), At: p.below(140) - 5}
		if p.below(3) == 0 {
			c.Keep = []int{c.Torn}
		}
		want(t, "Arm", p.d.Arm(c), api.OK)
		p.down++
	default:
		x.records = append(x.records, payload)
		p.appended++
	}
	want(t, "Append", x.j.Append(payload), asked)
	if asked == api.ErrDown {
		want(t, "Boot", p.d.Boot(), api.OK)
	}
}

// spoil turns a byte of a sector.
func (p *play) spoil(t *testing.T) {
	t.Helper()
	at := p.below(12)
	b, e := p.d.Read(at)
	want(t, "Read", e, api.OK)
	b[p.below(128)] ^= byte(1 << p.below(8))
	spoil(t, p.d, at, b)
}

// Over many calls, crashes and spoilt sectors, each journal tells what it was opened with and what was appended to it, and Open what lies on the disk.
func TestManyJournals(t *testing.T) {
	p := &play{noise: 5}
	for range 60 {
		p.d, p.open = made(t, 12), nil
		for range 80 {
			switch p.below(12) {
			case 0, 1:
				p.start(t)
			case 2:
				p.spoil(t)
			default:
				if len(p.open) > 0 {
					p.append(t)
				}
			}
			for _, x := range p.open {
				has(t, "open", x.j, x.many, x.epoch, x.records...)
			}
		}
		for epoch := range uint64(4) {
			finds(t, "opened again", p.d, 0, 12, epoch, prefixOf(t, p.d, 0, 12, epoch)...)
			finds(t, "opened again", p.d, 4, 8, epoch, prefixOf(t, p.d, 4, 8, epoch)...)
		}
	}
	if p.appended < 500 || p.down < 200 {
		t.Errorf("%d were appended, %d crashes", p.appended, p.down)
	}
}
