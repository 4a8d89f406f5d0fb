package pool_test

import (
	"math"
	"testing"

	"quadrat/api"
	"quadrat/pool"
)

func TestNewPoolIsEmpty(t *testing.T) {
	for _, frames := range []int{1, 2, 3, 63, 64} {
		x := made(t, frames)
		x.has(t, "new", 0)
		if x.Keys() != nil {
			t.Errorf("Keys are %v", x.Keys())
		}
		for _, k := range append(others(), key(1)) {
			x.denies(t, "new", k)
			x.rejects(t, "Unpin", api.ErrPool, func() api.Errno { return x.Unpin(k) })
			x.rejects(t, "Clean", api.ErrPool, func() api.Errno { return x.Clean(k) })
			x.rejects(t, "Drop", api.ErrPool, func() api.Errno { return x.Drop(k) })
		}
		x.called(t, "new")
	}
}

// A pool has just as many frames as it was made with.
func TestNewHasSoManyFrames(t *testing.T) {
	for _, frames := range []int{1, 2, 5, 63, 64} {
		x := made(t, frames)
		for no := range frames {
			x.pin(t, no)
			if x.Held() != no+1 || x.Pins() != no+1 || len(x.Keys()) != no+1 {
				t.Errorf("%d frames: Held %d, Pins %d, Keys %v", frames, x.Held(), x.Pins(), x.Keys())
			}
		}
		x.rejects(t, "Pin of one more", api.ErrBudget, func() api.Errno { return x.Pin(key(frames)) })
		x.rejects(t, "Fresh of one more", api.ErrBudget, func() api.Errno { return x.Fresh(of(frames, 1)) })
	}
}

func TestNewOfOtherFrames(t *testing.T) {
	for _, frames := range []int{0, 65, 66, 128, 4096, -1, -2, -64, math.MaxInt32, 1 << 32, 1<<32 + 1, 1<<63 - 64, math.MaxInt, math.MinInt32, math.MinInt, math.MinInt + 1} {
		for _, b := range []api.Back{&back{}, nil} {
			if p, e := pool.New(frames, b); e != api.ErrPool || p != nil {
				t.Errorf("New(%d, %v): error %d and %v", frames, b, e, p)
			}
		}
	}
}

func TestNewOfNoBackingStore(t *testing.T) {
	for _, frames := range []int{1, 2, 64} {
		if p, e := pool.New(frames, nil); e != api.ErrPool || p != nil {
			t.Errorf("New(%d, nil): error %d and %v", frames, e, p)
		}
	}
}

// New asks nothing of the backing store, and two pools of one store are apart.
func TestPoolsAreApart(t *testing.T) {
	x := made(t, 2)
	x.called(t, "New")
	p, e := pool.New(1, x.b)
	want(t, "New", e, api.OK)
	y := bed{p, x.b}
	x.pin(t, 1, 2)
	y.pin(t, 3)
	x.has(t, "one pool", 2, 2, 1)
	y.has(t, "the other one", 1, 3)
	y.unpin(t, 3)
	x.denies(t, "one pool", key(3))
	x.has(t, "one pool", 2, 2, 1)
}
