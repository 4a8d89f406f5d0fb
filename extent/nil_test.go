package extent_test

import (
	"math"
	"testing"

	"quadrat/api"
	"quadrat/extent"
)

// refuses fails unless each call refuses the space, whatever else is wrong.
func refuses(t *testing.T, what string, s *extent.Space) {
	t.Helper()
	for _, n := range []int{math.MinInt, -1, 0, 1, 4096, 4097, math.MaxInt} {
		got, e := s.Take(n)
		want(t, what+": Take", e, api.ErrNil)
		if got != (api.Extent{}) {
			t.Errorf("%s: Take(%d) is %v", what, n, got)
		}
		for _, at := range []int{math.MinInt, -1, 0, 1, 4096, math.MaxInt} {
			want(t, what+": Claim", s.Claim(x(at, n)), api.ErrNil)
			want(t, what+": Give", s.Give(x(at, n)), api.ErrNil)
			if s.Has(at) {
				t.Errorf("%s: Has(%d)", what, at)
			}
		}
	}
	counts(t, what, s, 0, 0)
	if l := s.Taken(); l != nil {
		t.Errorf("%s: Taken is %v", what, l)
	}
	if s.Copy() != nil {
		t.Errorf("%s: Copy is a space", what)
	}
}

func TestSpacesThatWereNotMade(t *testing.T) {
	var zero extent.Space
	refuses(t, "nil", nil)
	refuses(t, "zero", &zero)
	refuses(t, "zero, asked before", &zero)
	refuses(t, "new", new(extent.Space))
	none, _ := extent.New(1, 0)
	refuses(t, "of an error", none)
	refuses(t, "a copy of none", none.Copy())
}

// An assignment is no Copy: if it went on, it would share its sectors with the space that it was assigned from.
func TestAssignedSpace(t *testing.T) {
	s := with(t, 0, 10, x(2, 3))
	assigned := *s
	refuses(t, "assigned", &assigned)
	taken(t, "the first one", s, x(2, 3))
	taken(t, "a copy of the first one", s.Copy(), x(2, 3))
}
