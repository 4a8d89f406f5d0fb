package extent_test

import (
	"slices"
	"testing"

	"quadrat/api"
	"quadrat/extent"
)

// want fails unless an error is the one that is asked for.
func want(t *testing.T, what string, got, asked api.Errno) {
	t.Helper()
	if got != asked {
		t.Errorf("%s: error %d, want %d", what, got, asked)
	}
}

// x is an extent.
func x(at, n int) api.Extent { return api.Extent{At: at, N: n} }

// made is a new space.
func made(t *testing.T, from, to int) *extent.Space {
	t.Helper()
	s, e := extent.New(from, to)
	if e != api.OK || s == nil {
		t.Fatalf("New(%d, %d): error %d", from, to, e)
	}
	return s
}

// with is a new space in which some extents are allocated.
func with(t *testing.T, from, to int, allocated ...api.Extent) *extent.Space {
	t.Helper()
	s := made(t, from, to)
	for _, one := range allocated {
		claim(t, s, one)
	}
	return s
}

// take takes so many sectors, which must be just that extent.
func take(t *testing.T, s *extent.Space, n int, asked api.Extent) {
	t.Helper()
	got, e := s.Take(n)
	if e != api.OK || got != asked {
		t.Errorf("Take(%d): error %d and %v, want %v", n, e, got, asked)
	}
}

// refuse fails unless Take answers that error, and beside it the zero extent.
func refuse(t *testing.T, s *extent.Space, n int, asked api.Errno) {
	t.Helper()
	got, e := s.Take(n)
	if e != asked || got != (api.Extent{}) {
		t.Errorf("Take(%d): error %d and %v, want error %d", n, e, got, asked)
	}
}

// claim claims an extent, which must go well.
func claim(t *testing.T, s *extent.Space, one api.Extent) {
	t.Helper()
	if e := s.Claim(one); e != api.OK {
		t.Errorf("Claim(%v): error %d", one, e)
	}
}

// give gives an extent back, which must go well.
func give(t *testing.T, s *extent.Space, one api.Extent) {
	t.Helper()
	if e := s.Give(one); e != api.OK {
		t.Errorf("Give(%v): error %d", one, e)
	}
}

// taken fails unless Taken answers just these extents.
func taken(t *testing.T, what string, s *extent.Space, asked ...api.Extent) {
	t.Helper()
	if got := s.Taken(); !slices.Equal(got, asked) {
		t.Errorf("%s: %v are taken, want %v", what, got, asked)
	}
}

// counts fails unless so many sectors are free, and so many of them follow one another at most.
func counts(t *testing.T, what string, s *extent.Space, left, longest int) {
	t.Helper()
	if s.Left() != left || s.Longest() != longest {
		t.Errorf("%s: %d are left, %d at a stretch, want %d and %d", what, s.Left(), s.Longest(), left, longest)
	}
}

// has fails unless, of the sectors from -2 to beyond MaxSectors, just those of the extents belong to the space and are allocated.
func has(t *testing.T, what string, s *extent.Space, allocated ...api.Extent) {
	t.Helper()
	for at := -2; at < api.MaxSectors+3; at++ {
		asked := slices.ContainsFunc(allocated, func(one api.Extent) bool {
			return one.At <= at && at < one.At+one.N
		})
		if s.Has(at) != asked {
			t.Errorf("%s: Has(%d) is %v", what, at, !asked)
		}
	}
}

// stays fails unless a call leaves what the space tells as it is.
func stays(t *testing.T, what string, s *extent.Space, call func()) {
	t.Helper()
	before, left, longest := s.Taken(), s.Left(), s.Longest()
	call()
	taken(t, what, s, before...)
	counts(t, what, s, left, longest)
}
