package extent_test

import (
	"math"
	"slices"
	"testing"

	"quadrat/api"
)

func TestCounts(t *testing.T) {
	for _, c := range []struct {
		what          string
		allocated     []api.Extent
		left, longest int
	}{
		{"nothing allocated", nil, 30, 30},
		{"the first one", []api.Extent{x(10, 1)}, 29, 29},
		{"the last one", []api.Extent{x(39, 1)}, 29, 29},
		{"both", []api.Extent{x(10, 1), x(39, 1)}, 28, 28},
		{"the longest run is first", []api.Extent{x(25, 1), x(30, 2)}, 27, 15},
		{"the longest run is between", []api.Extent{x(12, 1), x(35, 2)}, 27, 22},
		{"the longest run is last", []api.Extent{x(12, 1), x(15, 2)}, 27, 23},
		{"two runs are the longest ones", []api.Extent{x(20, 10)}, 20, 10},
		{"all but the first one", []api.Extent{x(11, 29)}, 1, 1},
		{"all but the last one", []api.Extent{x(10, 29)}, 1, 1},
		{"all", []api.Extent{x(10, 30)}, 0, 0},
	} {
		s := with(t, 10, 40, c.allocated...)
		counts(t, c.what, s, c.left, c.longest)
		taken(t, c.what, s, c.allocated...)
		has(t, c.what, s, c.allocated...)
	}
}

func TestHasOfSectorsOutside(t *testing.T) {
	for _, c := range []struct{ from, to int }{{0, 4096}, {10, 20}, {4095, 4096}} {
		s := with(t, c.from, c.to, x(c.from, c.to-c.from))
		for _, at := range []int{c.from - 1, c.to, -1, 4096, 4097, math.MinInt, math.MinInt + c.from, math.MinInt + c.to, math.MaxInt, math.MaxInt - c.from} {
			if s.Has(at) {
				t.Errorf("Has(%d) of a space from %d to %d", at, c.from, c.to)
			}
		}
	}
}

func TestTakenJoinsWhatTouches(t *testing.T) {
	s := with(t, 0, 40, x(30, 5), x(10, 5), x(20, 5))
	taken(t, "apart, in increasing order", s, x(10, 5), x(20, 5), x(30, 5))
	claim(t, s, x(15, 1))
	taken(t, "longer behind", s, x(10, 6), x(20, 5), x(30, 5))
	claim(t, s, x(19, 1))
	taken(t, "longer ahead", s, x(10, 6), x(19, 6), x(30, 5))
	claim(t, s, x(16, 3))
	taken(t, "joined", s, x(10, 15), x(30, 5))
	take(t, s, 10, x(0, 10))
	take(t, s, 5, x(25, 5))
	take(t, s, 5, x(35, 5))
	taken(t, "all", s, x(0, 40))
}

func TestTakenAnswersNewMemory(t *testing.T) {
	s := with(t, 0, 40, x(3, 2), x(10, 5), x(20, 5))
	one, two := s.Taken(), s.Taken()
	for i := range one {
		one[i] = x(0, 40)
	}
	_ = append(one[:0], x(1, 1), x(2, 2))
	if !slices.Equal(two, []api.Extent{x(3, 2), x(10, 5), x(20, 5)}) {
		t.Errorf("two answers share memory: the other one is now %v", two)
	}
	taken(t, "behind a change of an answer", s, x(3, 2), x(10, 5), x(20, 5))
	has(t, "behind a change of an answer", s, x(3, 2), x(10, 5), x(20, 5))
	give(t, s, x(3, 2))
	take(t, s, 10, x(0, 10))
	if !slices.Equal(two, []api.Extent{x(3, 2), x(10, 5), x(20, 5)}) {
		t.Errorf("an answer of before is now %v", two)
	}
}

func TestCopyIsInTheSameState(t *testing.T) {
	for _, allocated := range [][]api.Extent{nil, {x(10, 30)}, {x(10, 2), x(15, 5), x(39, 1)}} {
		s := with(t, 10, 40, allocated...)
		c := s.Copy()
		taken(t, "a copy", c, allocated...)
		has(t, "a copy", c, allocated...)
		counts(t, "a copy", c, s.Left(), s.Longest())
		want(t, "Claim of a sector ahead", c.Claim(x(9, 1)), api.ErrExtent)
		want(t, "Claim of a sector behind", c.Claim(x(40, 1)), api.ErrExtent)
		refuse(t, c, 31, api.ErrFull)
		taken(t, "a copy of a copy", c.Copy(), allocated...)
	}
	taken(t, "a copy of a space of no sector", made(t, 5, 5).Copy())
}

func TestCopyAndOriginalGoDifferentWays(t *testing.T) {
	s := with(t, 10, 40, x(10, 2), x(15, 5))
	c := s.Copy()
	take(t, c, 3, x(12, 3))
	give(t, c, x(17, 3))
	taken(t, "the first one", s, x(10, 2), x(15, 5))
	counts(t, "the first one", s, 23, 20)
	claim(t, s, x(30, 10))
	give(t, s, x(10, 1))
	taken(t, "the copy", c, x(10, 7))
	counts(t, "the copy", c, 23, 23)
	take(t, c, 23, x(17, 23))
	take(t, s, 4, x(20, 4))
	taken(t, "the first one", s, x(11, 1), x(15, 9), x(30, 10))
	taken(t, "the copy", c, x(10, 30))
}
