package extent_test

import (
	"maps"
	"slices"
	"testing"

	"quadrat/api"
	"quadrat/extent"
)

// model is the space as the chapter's terms word it, as plainly as can be: it is what the space is held against.
type model struct {
	from, to int
	free     map[int]bool // has the sectors of the space, and no others
}

// modelOf is a model of a new space.
func modelOf(from, to int) *model {
	m := &model{from: from, to: to, free: make(map[int]bool)}
	for at := from; at < to; at++ {
		m.free[at] = true
	}
	return m
}

// are says whether an extent has sectors, all of the space, and all free or all allocated.
func (m *model) are(one api.Extent, free bool) bool {
	for at := one.At; at < one.At+one.N; at++ {
		if is, belongs := m.free[at]; !belongs || is != free {
			return false
		}
	}
	return one.N >= 1
}

// set makes the sectors of an extent free, or allocated.
func (m *model) set(one api.Extent, free bool) {
	for at := one.At; at < one.At+one.N; at++ {
		m.free[at] = free
	}
}

// turn is the model's Claim and Give.
func (m *model) turn(one api.Extent, free bool) api.Errno {
	if !m.are(one, !free) {
		return api.ErrExtent
	}
	m.set(one, free)
	return api.OK
}

// take is the model's Take.
func (m *model) take(n int) (api.Extent, api.Errno) {
	if n < 1 {
		return api.Extent{}, api.ErrExtent
	}
	for at := m.from; at < m.to; at++ {
		if m.are(x(at, n), true) {
			m.set(x(at, n), false)
			return x(at, n), api.OK
		}
	}
	return api.Extent{}, api.ErrFull
}

// held fails unless the space is as the model is, whatever is asked.
func (m *model) held(t *testing.T, s *extent.Space) {
	t.Helper()
	var list []api.Extent
	left, longest, length := 0, 0, 0
	for at := m.from - 1; at <= m.to; at++ {
		free, belongs := m.free[at]
		if s.Has(at) != (belongs && !free) {
			t.Errorf("Has(%d) is %v", at, s.Has(at))
		}
		if free {
			left++
			length++
			longest = max(longest, length)
			continue
		}
		length = 0
		if last := len(list) - 1; belongs && last >= 0 && list[last].At+list[last].N == at {
			list[last].N++
		} else if belongs {
			list = append(list, x(at, 1))
		}
	}
	counts(t, "held against the model", s, left, longest)
	taken(t, "held against the model", s, list...)
}

// noise yields numbers that look like chance and are always the same.
type noise uint32

// below is the next number, from 0 on and below n.
func (r *noise) below(n int) int {
	*r = *r*1664525 + 1013904223
	return int(*r>>8) % n
}

// play does some next thing to both, and fails unless both answer the same.
func (r *noise) play(t *testing.T, s *extent.Space, m *model) {
	t.Helper()
	size := m.to - m.from
	one := x(m.from-2+r.below(size+4), r.below(size/2+4)-1)
	switch r.below(8) {
	case 0, 1, 2:
		n := r.below(size/3+4) - 1
		got, e := s.Take(n)
		asked, asks := m.take(n)
		if got != asked || e != asks {
			t.Errorf("Take(%d): error %d and %v, want error %d and %v", n, e, got, asks, asked)
		}
	case 3:
		want(t, "Claim", s.Claim(one), m.turn(one, false))
	case 4:
		want(t, "Give", s.Give(one), m.turn(one, true))
	default: // one that goes well, if there is any
		if list := s.Taken(); len(list) > 0 {
			all := list[r.below(len(list))]
			skip := r.below(all.N)
			part := x(all.At+skip, 1+r.below(all.N-skip))
			want(t, "Give", s.Give(part), api.OK)
			m.set(part, true)
		}
	}
}

func TestSpaceFollowsTheTerms(t *testing.T) {
	for seed := range 100 {
		r := noise(seed)
		from := r.below(30)
		to := from + r.below(40)
		s, m := made(t, from, to), modelOf(from, to)
		for i := range 200 {
			r.play(t, s, m)
			m.held(t, s)
			if i%50 == 49 {
				s = s.Copy() // a copy goes on as the space would
			}
			if t.Failed() {
				t.Fatalf("seed %d, step %d, from %d to %d", seed, i, from, to)
			}
		}
	}
}

func TestGivingBackWhatWasTakenLeavesTheSpaceAsItWas(t *testing.T) {
	r := noise(7)
	for range 200 {
		s, m := made(t, 5, 65), modelOf(5, 65)
		for range r.below(20) {
			r.play(t, s, m)
		}
		before, left, longest := s.Taken(), s.Left(), s.Longest()
		var list []api.Extent
		for n := 1; n < 6; n++ {
			if got, e := s.Take(n); e == api.OK {
				list = append(list, got)
			}
		}
		for len(list) > 0 { // in any order
			i := r.below(len(list))
			give(t, s, list[i])
			list = slices.Delete(list, i, i+1)
		}
		taken(t, "given back", s, before...)
		counts(t, "given back", s, left, longest)
		m.held(t, s)
	}
}

func TestNoSectorIsAllocatedTwice(t *testing.T) {
	r := noise(8)
	for range 50 {
		s := made(t, 0, 100)
		var owner [100]int // of each sector, which call allocated it
		for call := 1; call < 60; call++ {
			got, e := s.Take(1 + r.below(6))
			if call%3 == 0 {
				got = x(r.below(100), 1+r.below(4))
				e = s.Claim(got)
			}
			if e != api.OK {
				continue
			}
			for at := got.At; at < got.At+got.N; at++ {
				if owner[at] != 0 {
					t.Fatalf("%d is allocated by call %d and by call %d", at, owner[at], call)
				}
				owner[at] = call
			}
			if call%5 == 0 {
				give(t, s, got)
				clear(owner[got.At : got.At+got.N])
			}
		}
	}
}

// alike fails unless two spaces go on alike, which they are left for.
func alike(t *testing.T, r noise, one, two *extent.Space, from, to int) {
	t.Helper()
	m := modelOf(from, to)
	for _, got := range one.Taken() {
		m.set(got, false)
	}
	n := &model{from: from, to: to, free: maps.Clone(m.free)}
	again := r
	for range 30 {
		r.play(t, one, m)
		again.play(t, two, n)
		taken(t, "the other one", two, one.Taken()...)
		counts(t, "the other one", two, one.Left(), one.Longest())
	}
}

func TestSameStateBehavesTheSameWhateverLedThere(t *testing.T) {
	r := noise(9)
	for range 60 {
		played, m := made(t, 3, 63), modelOf(3, 63)
		for range 40 {
			r.play(t, played, m)
		}
		state := played.Taken()
		apart := made(t, 3, 63) // one by one, the last one first
		for _, at := range slices.Backward(state) {
			for i := at.N - 1; i >= 0; i-- {
				claim(t, apart, x(at.At+i, 1))
			}
		}
		carved := with(t, 3, 63, x(3, 60)) // all, but for what is free
		for at := 3; at < 63; at++ {
			if m.free[at] {
				give(t, carved, x(at, 1))
			}
		}
		taken(t, "claimed one by one", apart, state...)
		taken(t, "given back one by one", carved, state...)
		alike(t, r, played.Copy(), apart, 3, 63)
		alike(t, r, played.Copy(), carved, 3, 63)
	}
}
