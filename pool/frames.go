package pool

import (
	"iter"
	"slices"

	"quadrat/api"
)

// frame is one that holds a tile.
type frame struct {
	tile api.Tile
	pins int
	// dirty tells that the backing store has not got the tile as it is. Then number is what must be ready before it is stored; otherwise it is 0.
	dirty  bool
	number int
}

// has says whether a frame's tile has an element of that index.
func (f *frame) has(i int) bool { return i >= 0 && i < len(f.tile.Elems) }

// keyOf is what identifies a tile.
func keyOf(t api.Tile) api.Key { return api.Key{File: t.File, No: t.No} }

// copied is the same tile in new memory.
func copied(t api.Tile) api.Tile {
	t.Elems = slices.Clone(t.Elems)
	return t
}

// oldest yields the frames that hold a tile, from the least recently used one on.
func (p *Pool) oldest() iter.Seq[*frame] {
	return func(yield func(*frame) bool) {
		for _, f := range p.held {
			if !yield(f) {
				return
			}
		}
	}
}

// first is the least recently used frame that passes a test, or nil.
func (p *Pool) first(passes func(f *frame) bool) *frame {
	var found *frame
visiting:
	for f := range p.oldest() {
		if passes(f) {
			found = f
			break visiting
		}
	}
	return found
}

// find is the frame that holds the tile of a key, or nil.
func (p *Pool) find(k api.Key) *frame {
	return p.first(func(f *frame) bool { return keyOf(f.tile) == k })
}

// pinned is the frame that holds the tile of a key, or nil if it is not pinned.
func (p *Pool) pinned(k api.Key) *frame {
	return p.first(func(f *frame) bool { return keyOf(f.tile) == k && f.pins > 0 })
}

// use makes a frame the most recently used one, also one that was empty up to now.
func (p *Pool) use(f *frame) {
	p.remove(f)
	p.held = append(p.held, f)
}

// remove takes a frame out of those that hold a tile.
func (p *Pool) remove(f *frame) {
	p.held = slices.DeleteFunc(p.held, func(x *frame) bool { return x == f })
}

// free makes sure that a frame is empty.
func (p *Pool) free() api.Errno {
	if len(p.held) < p.size {
		return api.OK
	}
	f := p.first(func(f *frame) bool { return f.pins == 0 })
	if f == nil {
		return api.ErrBudget
	}
	if e := p.clean(f); e != api.OK {
		return e
	}
	p.remove(f)
	return api.OK
}

// clean writes a frame's tile back if it is dirty. If that fails, the frame stays as it was, so that nothing is lost and it can be tried again.
func (p *Pool) clean(f *frame) api.Errno {
	if !f.dirty {
		return api.OK
	}
	e := p.ask(func() api.Errno {
		if e := p.back.Ready(f.number); e != api.OK {
			return e
		}
		return p.back.Store(copied(f.tile))
	})
	if e != api.OK {
		return e
	}
	f.dirty, f.number = false, 0
	return api.OK
}

// load is the tile that the backing store has for a key. One of another key would be found under that one, and perhaps twice.
func (p *Pool) load(k api.Key) (api.Tile, api.Errno) {
	var t api.Tile
	e := p.ask(func() (e api.Errno) {
		t, e = p.back.Load(k)
		return e
	})
	if e != api.OK {
		return api.Tile{}, e
	}
	if keyOf(t) != k {
		return api.Tile{}, api.ErrPool
	}
	return copied(t), api.OK
}

// ask lets the backing store do something. As it comes from outside, it may panic (a nil one behind the interface does): that is an error, and the pool goes on.
func (p *Pool) ask(call func() api.Errno) (e api.Errno) {
	p.asking = true
	defer func() {
		p.asking = false
		if recover() != nil {
			e = api.ErrPool
		}
	}()
	return call()
}
