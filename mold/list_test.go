package mold_test

import (
	"slices"
	"testing"

	"quadrat/api"
	"quadrat/mold"
)

// lists fails unless an array is a list of these numbers.
func lists(t *testing.T, a api.Array, asked ...int64) {
	t.Helper()
	if got, e := mold.List(a); e != api.OK || !slices.Equal(got, asked) {
		t.Errorf("List of %s: error %d and %v, want %v", short(a), e, got, asked)
	}
}

// isNoList fails unless List answers that error, and nothing beside it.
func isNoList(t *testing.T, a api.Array, asked api.Errno) {
	t.Helper()
	got, e := mold.List(a)
	want(t, "List of "+short(a), e, asked)
	if len(got) != 0 {
		t.Errorf("List of %s: beside its error stands %v", short(a), got)
	}
}

func TestLists(t *testing.T) {
	for _, n := range []int64{0, 1, -1, 7, 4096, 4097, least, least + 1, greatest} {
		lists(t, number(n), n)
		lists(t, vector(n), n)
		lists(t, vector(n, 5, n), n, 5, n)
	}
	lists(t, vector())
	lists(t, api.Array{Kind: 1, Shape: []int{0}})
	lists(t, vector(many(1, 4096)...), many(1, 4096)...)
}

func TestArraysThatAreNoLists(t *testing.T) {
	for _, bad := range badArrays() {
		isNoList(t, bad, api.ErrArray)
	}
	for _, shape := range goodShapes() {
		if len(shape) > 1 {
			isNoList(t, told(1, 1, shape...), api.ErrRank)
			isNoList(t, told(2, 1, shape...), api.ErrRank)
		}
	}
	for _, a := range []api.Array{chars(nil, '2'), text(""), text("a"), text("12"), told(2, 1, 4096)} {
		isNoList(t, a, api.ErrDomain)
	}
}
