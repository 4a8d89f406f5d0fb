package extent_test

import (
	"math"
	"testing"

	"quadrat/api"
	"quadrat/extent"
)

// strange are extents that are valid for no space of the sectors 10 to 19.
func strange() []api.Extent {
	list := []api.Extent{
		x(9, 1), x(9, 2), x(9, 11), x(9, 12), x(8, 2),
		x(20, 1), x(19, 2), x(10, 11), x(11, 10), x(21, 1),
		x(0, 1), x(0, 10), x(0, 20), x(0, 4096), x(4095, 1), x(4096, 1), x(-1, 1), x(-1, 11), x(-1, 21),
	}
	most := []int{math.MaxInt, math.MaxInt - 1, math.MaxInt - 9, math.MaxInt - 10, math.MaxInt - 20, math.MinInt, math.MinInt + 1, math.MinInt + 10, math.MinInt + 20}
	for _, a := range most {
		for _, b := range most {
			list = append(list, x(a, b))
		}
		for near := 8; near < 22; near++ {
			list = append(list, x(a, near), x(near, a))
		}
	}
	for at := 8; at < 22; at++ {
		for _, n := range []int{0, -1, -2, -at, -10, -20} {
			list = append(list, x(at, n))
		}
	}
	return list
}

func TestClaimAndGiveOfWhatIsNotValid(t *testing.T) {
	free := made(t, 10, 20)
	full := with(t, 10, 20, x(10, 10))
	mixed := with(t, 10, 20, x(10, 2), x(14, 3), x(19, 1))
	for _, one := range strange() {
		want(t, "Claim", free.Claim(one), api.ErrExtent)
		want(t, "Give", full.Give(one), api.ErrExtent)
		want(t, "Claim", mixed.Claim(one), api.ErrExtent)
		want(t, "Give", mixed.Give(one), api.ErrExtent)
		if t.Failed() {
			t.Fatalf("with %v", one)
		}
	}
	taken(t, "free", free)
	taken(t, "full", full, x(10, 10))
	taken(t, "mixed", mixed, x(10, 2), x(14, 3), x(19, 1))
}

// An extent may be as great as an int can be in a space that begins with sector 0, and in one that ends with the last one there can be.
func TestGreatestExtents(t *testing.T) {
	for _, c := range []struct{ from, to int }{{0, 1}, {0, 4096}, {4095, 4096}} {
		free := made(t, c.from, c.to)
		full := with(t, c.from, c.to, x(c.from, c.to-c.from))
		for _, one := range []api.Extent{
			x(c.from, math.MaxInt), x(c.to-1, math.MaxInt), x(c.from+1, math.MaxInt),
			x(math.MaxInt, math.MaxInt), x(math.MaxInt, 1), x(math.MinInt, math.MaxInt), x(math.MinInt, math.MinInt),
			x(-1, math.MaxInt), x(c.from, math.MinInt), x(c.from-math.MaxInt, math.MaxInt), x(c.from, c.to-c.from+1),
		} {
			want(t, "Claim", free.Claim(one), api.ErrExtent)
			want(t, "Give", full.Give(one), api.ErrExtent)
		}
		counts(t, "free", free, c.to-c.from, c.to-c.from)
		counts(t, "full", full, 0, 0)
	}
}

func TestClaimAndGiveOfTheWholeSpace(t *testing.T) {
	for _, c := range []struct{ from, to int }{{0, 1}, {0, 4096}, {10, 20}, {4095, 4096}, {50, 4096}} {
		n := c.to - c.from
		all := x(c.from, n)
		s := made(t, c.from, c.to)
		for _, one := range []api.Extent{x(c.from-1, n+1), x(c.from, n+1), x(c.from-1, n+2), x(c.from-1, n), x(c.from+1, n)} {
			want(t, "Claim of one too many", s.Claim(one), api.ErrExtent)
		}
		want(t, "Give of free ones", s.Give(all), api.ErrExtent)
		claim(t, s, all)
		has(t, "claimed", s, all)
		counts(t, "claimed", s, 0, 0)
		for _, one := range []api.Extent{x(c.from-1, n+1), x(c.from, n+1), x(c.from-1, n+2), x(c.from-1, n), x(c.from+1, n)} {
			want(t, "Give of one too many", s.Give(one), api.ErrExtent)
		}
		want(t, "Claim of allocated ones", s.Claim(all), api.ErrExtent)
		give(t, s, all)
		has(t, "given back", s)
		counts(t, "given back", s, n, n)
	}
}

func TestFirstAndLastSector(t *testing.T) {
	for _, c := range []struct{ from, to int }{{0, 4096}, {10, 20}, {0, 2}, {4094, 4096}} {
		s := made(t, c.from, c.to)
		first, last := x(c.from, 1), x(c.to-1, 1)
		n := c.to - c.from
		claim(t, s, last)
		has(t, "the last one", s, last)
		counts(t, "the last one", s, n-1, n-1)
		claim(t, s, first)
		has(t, "both", s, first, last)
		counts(t, "both", s, n-2, n-2)
		want(t, "Claim of the first one", s.Claim(first), api.ErrExtent)
		want(t, "Claim of the last one", s.Claim(last), api.ErrExtent)
		give(t, s, first)
		has(t, "the last one again", s, last)
		want(t, "Give of the first one", s.Give(first), api.ErrExtent)
		take(t, s, 1, first)
		give(t, s, last)
		want(t, "Give of the last one", s.Give(last), api.ErrExtent)
		taken(t, "the first one", s, first)
	}
}

func TestClaimOfSomeThatAreAllocated(t *testing.T) {
	start := with(t, 10, 30, x(14, 4), x(20, 4))
	turns(t, start, (*extent.Space).Claim)
}

func TestGiveOfSomeThatAreFree(t *testing.T) {
	start := with(t, 10, 30, x(10, 4), x(18, 2), x(24, 6))
	turns(t, start, (*extent.Space).Give)
}

// turns fails unless a call turns each extent of the sectors 10 to 29 that keeps clear of 14 to 17 and of 20 to 23, which are in the other state, refuses all others, and leaves the rest alone.
func turns(t *testing.T, start *extent.Space, call func(*extent.Space, api.Extent) api.Errno) {
	t.Helper()
	for at := 10; at < 30; at++ {
		for n := 1; at+n <= 30; n++ {
			s, asked := start.Copy(), api.OK
			if at < 18 && at+n > 14 || at < 24 && at+n > 20 {
				asked = api.ErrExtent
			}
			want(t, "turned", call(s, x(at, n)), asked)
			for i := 8; i < 32; i++ {
				turned := asked == api.OK && at <= i && i < at+n
				if turned == (s.Has(i) == start.Has(i)) {
					t.Errorf("%d, %d: Has(%d) is %v", at, n, i, s.Has(i))
				}
			}
		}
	}
}

// What is given back need not be what was allocated by one call.
func TestGiveOfParts(t *testing.T) {
	s := made(t, 0, 40)
	take(t, s, 10, x(0, 10))
	take(t, s, 10, x(10, 10))
	claim(t, s, x(25, 5))
	claim(t, s, x(20, 5))
	give(t, s, x(5, 20))
	taken(t, "of four calls", s, x(0, 5), x(25, 5))
	give(t, s, x(27, 1))
	taken(t, "out of the middle", s, x(0, 5), x(25, 2), x(28, 2))
	counts(t, "out of the middle", s, 31, 20)
}
