package extent_test

import (
	"math"
	"testing"

	"quadrat/api"
	"quadrat/extent"
)

func TestNewSpaceIsFree(t *testing.T) {
	for _, c := range []struct{ from, to int }{
		{0, 0},
		{0, 1},
		{0, 2},
		{0, 4095},
		{0, 4096},
		{1, 1},
		{1, 4096},
		{10, 20},
		{50, 51},
		{2048, 2048},
		{4094, 4096},
		{4095, 4095},
		{4095, 4096},
		{4096, 4096},
	} {
		s := made(t, c.from, c.to)
		n := c.to - c.from
		counts(t, "new", s, n, n)
		taken(t, "new", s)
		has(t, "new", s)
		if n == 0 {
			refuse(t, s, 1, api.ErrFull)
			continue
		}
		refuse(t, s, n+1, api.ErrFull)
		take(t, s, n, x(c.from, n))
		counts(t, "full", s, 0, 0)
		taken(t, "full", s, x(c.from, n))
		has(t, "full", s, x(c.from, n))
		refuse(t, s, 1, api.ErrFull)
	}
}

func TestNewOfOtherSectors(t *testing.T) {
	for _, c := range []struct{ from, to int }{
		{-1, 0},
		{-1, -1},
		{-1, 10},
		{-2, -1},
		{0, -1},
		{1, 0},
		{11, 10},
		{4096, 4095},
		{0, 4097},
		{4096, 4097},
		{4097, 4097},
		{4097, 4096},
		{5000, 6000},
		{-4096, 4096},
		{0, math.MaxInt},
		{math.MinInt, 0},
		{math.MinInt, math.MaxInt},
		{math.MaxInt, math.MinInt},
		{math.MaxInt, math.MaxInt},
		{math.MinInt, math.MinInt},
	} {
		s, e := extent.New(c.from, c.to)
		if e != api.ErrExtent || s != nil {
			t.Errorf("New(%d, %d): error %d, and a space: %v", c.from, c.to, e, s != nil)
		}
	}
}

func TestSpaceOfNoSector(t *testing.T) {
	for _, at := range []int{0, 7, 4096} {
		s := made(t, at, at)
		for _, n := range []int{1, 2, 4096, math.MaxInt} {
			refuse(t, s, n, api.ErrFull)
			for _, from := range []int{at - 1, at, at + 1} {
				want(t, "Claim", s.Claim(x(from, n)), api.ErrExtent)
				want(t, "Give", s.Give(x(from, n)), api.ErrExtent)
			}
		}
		counts(t, "no sector", s, 0, 0)
		taken(t, "no sector", s)
		has(t, "no sector", s)
	}
}

func TestSpaceOfOneSector(t *testing.T) {
	for _, at := range []int{0, 7, 4095} {
		s := made(t, at, at+1)
		one := x(at, 1)
		want(t, "Give of a free sector", s.Give(one), api.ErrExtent)
		take(t, s, 1, one)
		want(t, "Claim of an allocated sector", s.Claim(one), api.ErrExtent)
		refuse(t, s, 1, api.ErrFull)
		has(t, "allocated", s, one)
		give(t, s, one)
		counts(t, "given back", s, 1, 1)
		claim(t, s, one)
		counts(t, "claimed", s, 0, 0)
		taken(t, "claimed", s, one)
	}
}

func TestExamples(t *testing.T) {
	s := made(t, 10, 20)
	take(t, s, 3, x(10, 3))
	take(t, s, 4, x(13, 4))
	refuse(t, s, 4, api.ErrFull)
	give(t, s, x(10, 3))
	take(t, s, 2, x(10, 2))
	claim(t, s, x(17, 3))
	want(t, "Claim(12, 2)", s.Claim(x(12, 2)), api.ErrExtent)
	counts(t, "the third example", s, 1, 1)
	taken(t, "the third example", s, x(10, 2), x(13, 7))
}
