package journal_test

import (
	"testing"

	"quadrat/api"
	"quadrat/journal"
)

// nothing fails unless a journal is none: it tells nothing, and takes nothing.
func nothing(t *testing.T, what string, j *journal.Journal) {
	t.Helper()
	if l := j.Records(); l != nil {
		t.Errorf("%s: Records are % X", what, l)
	}
	if j.Len() != 0 || j.Left() != 0 || j.Epoch() != 0 {
		t.Errorf("%s: Len %d, Left %d, Epoch %d", what, j.Len(), j.Left(), j.Epoch())
	}
	for _, size := range []int{0, 1, 64, 65, 1000} {
		want(t, what+": Append", j.Append(make([]byte, size)), api.ErrNil)
	}
	want(t, what+": Append", j.Append(nil), api.ErrNil)
}

func TestJournalsThatOpenDidNotAnswer(t *testing.T) {
	var zero journal.Journal
	for range 2 {
		nothing(t, "nil", nil)
		nothing(t, "zero", &zero)
		nothing(t, "new", new(journal.Journal))
	}
}

// A journal that is assigned is not the one that Open answered, which goes on.
func TestJournalsThatAreAssigned(t *testing.T) {
	l := begun(t, 4, []byte("a"), []byte("b"))
	writes := l.d.Writes()
	mere := *l.j
	nothing(t, "assigned", &mere)
	var zero journal.Journal
	zero = *l.j
	nothing(t, "assigned to a zero one", &zero)
	if l.d.Writes() != writes {
		t.Errorf("%d writes", l.d.Writes()-writes)
	}
	l.check(t, "the one that was opened")
	l.add(t, []byte("c"))
	nothing(t, "assigned", &mere)
}

func TestJournalOfAnOpenThatFailed(t *testing.T) {
	for _, many := range []int{-1, 0, 11} {
		j, _ := journal.Open(made(t, 10), 0, many, 7)
		nothing(t, "no journal", j)
	}
}
