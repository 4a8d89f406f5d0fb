package pool_test

import (
	"math"
	"testing"

	"quadrat/api"
	"quadrat/pool"
)

// nothing fails unless a pool is none: it has nothing, and takes nothing.
func nothing(t *testing.T, what string, p *pool.Pool) {
	t.Helper()
	if p.Held() != 0 || p.Pins() != 0 || p.Keys() != nil {
		t.Errorf("%s: Held %d, Pins %d, Keys %v", what, p.Held(), p.Pins(), p.Keys())
	}
	for _, k := range append(others(), key(1)) {
		want(t, what+": Pin", p.Pin(k), api.ErrNil)
		want(t, what+": Fresh", p.Fresh(api.Tile{File: k.File, No: k.No, Kind: api.KindNum, Elems: []int64{1}}), api.ErrNil)
		want(t, what+": Unpin", p.Unpin(k), api.ErrNil)
		want(t, what+": Clean", p.Clean(k), api.ErrNil)
		want(t, what+": Drop", p.Drop(k), api.ErrNil)
		for _, i := range []int{-1, 0, 1, math.MaxInt, math.MinInt} {
			want(t, what+": Set", p.Set(k, i, 7, 7), api.ErrNil)
			if v, e := p.Get(k, i); v != 0 || e != api.ErrNil {
				t.Errorf("%s: Get: error %d and %d", what, e, v)
			}
		}
		if one, e := p.Tile(k); e != api.ErrNil || !same(one, api.Tile{}) {
			t.Errorf("%s: Tile: error %d and %v", what, e, one)
		}
	}
	if p.Held() != 0 || p.Pins() != 0 || p.Keys() != nil {
		t.Errorf("%s, behind all that: Held %d, Pins %d, Keys %v", what, p.Held(), p.Pins(), p.Keys())
	}
}

func TestPoolsThatNewDidNotAnswer(t *testing.T) {
	var zero pool.Pool
	for range 2 {
		nothing(t, "nil", nil)
		nothing(t, "zero", &zero)
		nothing(t, "new", new(pool.Pool))
	}
}

func TestPoolOfANewThatFailed(t *testing.T) {
	for _, frames := range []int{-1, 0, 65} {
		p, _ := pool.New(frames, &back{})
		nothing(t, "no pool", p)
	}
	p, _ := pool.New(1, nil)
	nothing(t, "no pool", p)
}

// A pool that is assigned is not the one that New answered, which goes on.
func TestPoolsThatAreAssigned(t *testing.T) {
	x := made(t, 2)
	x.pin(t, 1)
	x.fresh(t, of(2, 7))
	x.called(t, "the first ones", "load 5.1")
	mere := *x.Pool
	nothing(t, "assigned", &mere)
	var zero pool.Pool
	zero = *x.Pool
	nothing(t, "assigned to a zero one", &zero)
	x.called(t, "nothing was asked")
	x.has(t, "the one that was made", 2, 2, 1)
	x.unpin(t, 1)
	x.pin(t, 3)
	nothing(t, "assigned", &mere)
	x.has(t, "the one that was made", 2, 3, 2)
}
