package extent

import (
	"iter"
	"slices"

	"quadrat/api"
)

// runs yields the runs of consecutive sectors in a state, in increasing order. A run ends only at a sector in the other state, or at an end of the space, so no two of them touch.
func (s *Space) runs(allocated bool) iter.Seq[api.Extent] {
	return func(yield func(api.Extent) bool) {
		for at := s.from; at < s.to; {
			rest := s.allocated[at-s.from:]
			n := slices.Index(rest, !rest[0])
			if n < 0 {
				n = len(rest)
			}
			if rest[0] == allocated && !yield(api.Extent{At: at, N: n}) {
				return
			}
			at += n
		}
	}
}

// first is the first n consecutive free sectors, or, if there are none, the zero extent, which has no sector.
func (s *Space) first(n int) api.Extent {
	var found api.Extent
search:
	for run := range s.runs(false) {
		if run.N >= n {
			found = api.Extent{At: run.At, N: n}
			break search
		}
	}
	return found
}

// all says whether the sectors of a valid extent are all in a state. As they follow one another, one run has them all then.
func (s *Space) all(x api.Extent, allocated bool) bool {
	inside := false
search:
	for run := range s.runs(allocated) {
		switch {
		case shared(run, x) == x:
			inside = true
			break search
		case run.At > x.At: // and so are all that follow
			break search
		}
	}
	return inside
}

// shared is the sectors that a run and a valid extent have in common; its N is below 1 if there are none.
func shared(run, x api.Extent) api.Extent {
	at := max(run.At, x.At)
	return api.Extent{At: at, N: min(run.At+run.N, x.At+x.N) - at}
}
