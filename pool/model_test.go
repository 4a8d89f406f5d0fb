package pool_test

import (
	"cmp"
	"fmt"
	"slices"
	"testing"

	"quadrat/api"
)

// cell is a frame as the chapter's terms word it.
type cell struct {
	full         bool
	tile         api.Tile
	pins, number int
	dirty        bool
	used         int
}

// model is a pool as the chapter words it, as plainly as can be: it is what the pool is held against.
type model struct {
	frames []cell
	b      *back
	clock  int
}

// find is the frame that holds a tile, or nil.
func (m *model) find(k api.Key) *cell {
	for i := range m.frames {
		if f := &m.frames[i]; f.full && f.tile.File == k.File && f.tile.No == k.No {
			return f
		}
	}
	return nil
}

// use is what pinning and unpinning do to a frame.
func (m *model) use(f *cell) {
	m.clock++
	f.used = m.clock
}

// write writes a frame's tile back.
func (m *model) write(f *cell) api.Errno {
	if e := m.b.Ready(f.number); e != api.OK {
		return e
	}
	if e := m.b.Store(f.tile); e != api.OK {
		return e
	}
	f.dirty, f.number = false, 0
	return api.OK
}

// free is an empty frame.
func (m *model) free() (*cell, api.Errno) {
	var oldest *cell
	for i := range m.frames {
		f := &m.frames[i]
		if !f.full {
			return f, api.OK
		}
		if f.pins == 0 && (oldest == nil || f.used < oldest.used) {
			oldest = f
		}
	}
	if oldest == nil {
		return nil, api.ErrBudget
	}
	if oldest.dirty {
		if e := m.write(oldest); e != api.OK {
			return nil, e
		}
	}
	*oldest = cell{}
	return oldest, api.OK
}

// pin is the model's Pin.
func (m *model) pin(k api.Key) api.Errno {
	f := m.find(k)
	if f == nil {
		var e api.Errno
		if f, e = m.free(); e != api.OK {
			return e
		}
		one, e := m.b.Load(k)
		if e != api.OK {
			return e
		}
		if one.File != k.File || one.No != k.No {
			return api.ErrPool
		}
		*f = cell{full: true, tile: one}
	}
	f.pins++
	m.use(f)
	return api.OK
}

// fresh is the model's Fresh.
func (m *model) fresh(one api.Tile) api.Errno {
	if m.find(api.Key{File: one.File, No: one.No}) != nil {
		return api.ErrPool
	}
	f, e := m.free()
	if e != api.OK {
		return e
	}
	*f = cell{full: true, tile: like(one), pins: 1, dirty: true}
	m.use(f)
	return api.OK
}

// unpin is the model's Unpin.
func (m *model) unpin(k api.Key) api.Errno {
	f := m.find(k)
	if f == nil || f.pins == 0 {
		return api.ErrPool
	}
	f.pins--
	m.use(f)
	return api.OK
}

// set is the model's Set.
func (m *model) set(k api.Key, i int, v int64, number int) api.Errno {
	f := m.find(k)
	if f == nil || f.pins == 0 || i < 0 || i >= len(f.tile.Elems) {
		return api.ErrPool
	}
	f.tile.Elems[i], f.dirty = v, true
	if number > f.number {
		f.number = number
	}
	return api.OK
}

// clean is the model's Clean.
func (m *model) clean(k api.Key) api.Errno {
	f := m.find(k)
	if f == nil {
		return api.ErrPool
	}
	if !f.dirty {
		return api.OK
	}
	return m.write(f)
}

// drop is the model's Drop.
func (m *model) drop(k api.Key) api.Errno {
	f := m.find(k)
	if f == nil || f.pins > 0 {
		return api.ErrPool
	}
	*f = cell{}
	return api.OK
}

// held fails unless the pool is as the model is, whatever is asked.
func (m *model) held(t *testing.T, x bed) {
	t.Helper()
	var full []cell
	pins := 0
	for _, f := range m.frames {
		if f.full {
			full = append(full, f)
			pins += f.pins
		}
	}
	slices.SortFunc(full, func(f, g cell) int { return cmp.Compare(g.used, f.used) })
	var nos []int
	for _, f := range full {
		nos = append(nos, f.tile.No)
		if f.pins > 0 {
			x.holds(t, "held against the model", f.tile.No, f.tile.Elems...)
		} else {
			x.denies(t, "held against the model", key(f.tile.No))
		}
	}
	x.has(t, "held against the model", pins, nos...)
	if !slices.Equal(x.b.calls, m.b.calls) {
		t.Errorf("called %q, want %q", x.b.calls, m.b.calls)
	}
	x.b.calls, m.b.calls = nil, nil
}

// fault is one of a backing store's next calls, as two of them are to do it.
func (r *noise) fault(one, two *back) {
	e := []api.Errno{api.OK, api.OK, api.OK, api.OK, api.ErrDown, api.ErrCorrupt}
	load, ready, store, far := e[r.below(6)], e[r.below(6)], e[r.below(6)], r.below(8)
	for _, b := range []*back{one, two} {
		b.load = func(k api.Key) (api.Tile, api.Errno) {
			if far == 0 {
				return of(k.No+1, 3), load
			}
			return b.get(k), load
		}
		b.ready = func(int) api.Errno { return ready }
		b.store = func(x api.Tile) api.Errno {
			if store == api.OK {
				b.tiles[api.Key{File: x.File, No: x.No}] = like(x)
			}
			return store
		}
	}
}

// play does some next thing to both, and fails unless both answer the same.
func (r *noise) play(t *testing.T, x bed, m *model) {
	t.Helper()
	no := r.below(len(m.frames) + 3)
	k := key(no)
	what, got, asked := "", api.OK, api.OK
	switch r.below(13) {
	case 0, 1, 2:
		what, got, asked = "Pin", x.Pin(k), m.pin(k)
	case 3:
		one := of(no, make([]int64, r.below(4))...)
		what, got, asked = "Fresh", x.Fresh(one), m.fresh(one)
	case 4, 5, 6, 7:
		what, got, asked = "Unpin", x.Unpin(k), m.unpin(k)
	case 8, 9, 10:
		i, v, number := r.below(5)-1, int64(r.below(1000)), r.below(20)-3
		what, got, asked = "Set", x.Set(k, i, v, number), m.set(k, i, v, number)
	case 11:
		what, got, asked = "Clean", x.Clean(k), m.clean(k)
	case 12:
		what, got, asked = "Drop", x.Drop(k), m.drop(k)
	}
	want(t, fmt.Sprint(what, " ", no), got, asked)
}

func TestPoolFollowsTheTerms(t *testing.T) {
	for seed := range 150 {
		r := noise(seed)
		frames := 1 + r.below(6)
		x := made(t, frames)
		m := &model{frames: make([]cell, frames), b: &back{tiles: make(map[api.Key]api.Tile)}}
		for step := range 300 {
			if seed%3 > 0 {
				r.fault(x.b, m.b)
			}
			r.play(t, x, m)
			m.held(t, x)
			if t.Failed() {
				t.Fatalf("seed %d, step %d, %d frames", seed, step, frames)
			}
		}
	}
}

// pinned is how often tiles are pinned by somebody who counts that.
type pinned map[int]int

// some is a tile that is pinned, and whether there is one.
func (l pinned) some(r *noise) (int, bool) {
	var nos []int
	for no, pins := range l {
		if pins > 0 {
			nos = append(nos, no)
		}
	}
	if len(nos) == 0 {
		return 0, false
	}
	slices.Sort(nos)
	return nos[r.below(len(nos))], true
}

// step pins a tile, or unpins one, as somebody does who lets go of all that is pinned if there is no frame left.
func (l pinned) step(t *testing.T, r *noise, x bed) {
	t.Helper()
	no := r.below(30)
	if other, is := l.some(r); is && r.below(2) == 0 {
		x.unpin(t, other)
		l[other]--
		return
	}
	if x.Pin(key(no)) == api.OK {
		l[no]++
		return
	}
	for other, is := l.some(r); is; other, is = l.some(r) {
		x.unpin(t, other)
		l[other]--
	}
}

// The consequences: Get answers what was set, whatever was pinned and evicted in between; what is pinned is resident; and there are never more tiles than frames.
func TestConsequences(t *testing.T) {
	for seed := range 40 {
		r := noise(seed + 1000)
		frames := 1 + r.below(8)
		x := made(t, frames)
		l, elems := pinned{}, make(map[int][]int64)
		for no := range 30 {
			elems[no] = first(no)
		}
		for range 1500 {
			l.step(t, &r, x)
			if no, is := l.some(&r); is {
				i, v := r.below(3), int64(r.below(1<<30))
				x.set(t, no, i, v, r.below(9))
				elems[no][i] = v
			}
			pins := 0
			for no, n := range l {
				pins += n
				if n > 0 {
					x.holds(t, "pinned", no, elems[no]...)
				}
			}
			if x.Held() > frames || x.Pins() != pins {
				t.Errorf("Held %d, Pins %d, of %d frames and %d pins", x.Held(), x.Pins(), frames, pins)
			}
			if t.Failed() {
				t.Fatalf("seed %d, %d frames", seed, frames)
			}
		}
	}
}

// A journal is ready for no number beyond a limit that grows: no tile may be stored ahead of that.
func TestNoTileIsStoredAheadOfItsNumber(t *testing.T) {
	r := noise(5)
	x := made(t, 3)
	limit, asked, stores := 0, -1, 0
	number := make(map[int]int) // of each tile, the greatest one since it was stored last
	x.b.ready = func(n int) api.Errno {
		if asked = n; n > limit {
			return api.ErrDown
		}
		return api.OK
	}
	x.b.store = func(one api.Tile) api.Errno {
		if n := number[one.No]; asked != n || n > limit {
			t.Errorf("tile %d is stored behind Ready(%d), its number is %d, the limit %d", one.No, asked, n, limit)
		}
		number[one.No], asked = 0, -1
		stores++
		x.b.tiles[key(one.No)] = like(one)
		return api.OK
	}
	for step := range 3000 {
		if step%7 == 6 {
			limit++
		}
		no := r.below(9)
		if x.Pin(key(no)) != api.OK {
			continue
		}
		n := limit - 2 + r.below(5)
		x.set(t, no, r.below(3), int64(step), n)
		number[no] = max(number[no], n)
		x.unpin(t, no)
	}
	if stores < 300 || limit < 300 {
		t.Errorf("%d stores, up to %d", stores, limit)
	}
}
