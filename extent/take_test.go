package extent_test

import (
	"math"
	"testing"

	"quadrat/api"
)

func TestTakeIsFirstFit(t *testing.T) {
	for _, c := range []struct {
		what  string
		n     int
		asked int
	}{
		{"the first run is long enough", 1, 100},
		{"the first run fits just", 2, 100},
		{"an earlier run is too short", 3, 110},
		{"it fits just, behind one that is too short", 5, 110},
		{"two earlier runs are too short", 6, 130},
		{"the last run, the longest one, fits just", 9, 130},
	} {
		s := with(t, 100, 139, x(102, 8), x(115, 2), x(119, 11)) // free are 2, 5, 2 and 9
		got, e := s.Take(c.n)
		if e != api.OK || got != x(c.asked, c.n) {
			t.Errorf("%s: error %d and %v", c.what, e, got)
		}
		for at := got.At; at < got.At+got.N; at++ {
			if !s.Has(at) {
				t.Errorf("%s: %d is not allocated", c.what, at)
			}
		}
		if s.Left() != 18-c.n {
			t.Errorf("%s: %d are left", c.what, s.Left())
		}
	}
}

// The best fit would be the second run, and the worst one the third.
func TestTakeIsNeitherBestNorWorstFit(t *testing.T) {
	s := with(t, 0, 30, x(5, 3), x(10, 3))
	take(t, s, 2, x(0, 2))
	take(t, s, 2, x(2, 2))
	take(t, s, 2, x(8, 2))
	take(t, s, 2, x(13, 2))
	take(t, s, 1, x(4, 1))
	taken(t, "taken", s, x(0, 15))
}

func TestTakeLongerThanTheLongestRun(t *testing.T) {
	s := with(t, 0, 20, x(6, 1), x(13, 1)) // free are 6, 6 and 6
	stays(t, "refused", s, func() {
		for _, n := range []int{7, 18, 19, 20, 21, 4096, 4097, math.MaxInt} {
			refuse(t, s, n, api.ErrFull)
		}
	})
	counts(t, "refused", s, 18, 6)
	take(t, s, 6, x(0, 6))
	take(t, s, 6, x(7, 6))
	take(t, s, 6, x(14, 6))
	refuse(t, s, 1, api.ErrFull)
}

func TestTakeOfNone(t *testing.T) {
	s := with(t, 0, 20, x(3, 4))
	full := with(t, 0, 20, x(0, 20))
	for _, n := range []int{0, -1, -20, math.MinInt} {
		stays(t, "refused", s, func() { refuse(t, s, n, api.ErrExtent) })
		refuse(t, full, n, api.ErrExtent) // ahead of ErrFull
	}
}

func TestTakeEverySector(t *testing.T) {
	s := made(t, 0, api.MaxSectors)
	for at := range api.MaxSectors {
		take(t, s, 1, x(at, 1))
	}
	refuse(t, s, 1, api.ErrFull)
	taken(t, "one by one", s, x(0, api.MaxSectors))
	give(t, s, x(0, 1))
	give(t, s, x(api.MaxSectors-1, 1))
	counts(t, "first and last given back", s, 2, 1)
	refuse(t, s, 2, api.ErrFull)
	take(t, s, 1, x(0, 1))
	take(t, s, 1, x(api.MaxSectors-1, 1))
}

func TestTakeWhatWasGivenBack(t *testing.T) {
	s := with(t, 10, 40, x(10, 30))
	give(t, s, x(20, 4))
	refuse(t, s, 5, api.ErrFull)
	give(t, s, x(25, 3)) // 24 stays allocated between
	refuse(t, s, 5, api.ErrFull)
	counts(t, "given back", s, 7, 4)
	give(t, s, x(24, 1)) // and now they are one run
	counts(t, "given back", s, 8, 8)
	take(t, s, 8, x(20, 8))
}
