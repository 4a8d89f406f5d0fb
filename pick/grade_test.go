package pick_test

import (
	"testing"

	"quadrat/api"
	"quadrat/pick"
)

// graded is the model of grade: an index has as many ahead of it as are better, and of the equal ones those that are less.
func graded(a api.Array, down bool) (api.Array, api.Errno) {
	switch {
	case !isValid(a):
		return api.Array{}, api.ErrArray
	case len(a.Shape) != 1:
		return api.Array{}, api.ErrRank
	}
	made := vector(make([]int64, len(a.Elems))...)
	for i, x := range a.Elems {
		ahead := 0
		for j, y := range a.Elems {
			if y < x && !down || y > x && down || y == x && j < i {
				ahead++
			}
		}
		made.Elems[ahead] = int64(i + 1)
	}
	return made, api.OK
}

// ranks fails unless grade answers what the model does, up and down, be it an error.
func ranks(t *testing.T, a api.Array) {
	t.Helper()
	for _, down := range []bool{false, true} {
		got, e := pick.Grade(a, down)
		asked, of := graded(a, down)
		want(t, "Grade of "+short(a), e, of)
		is(t, "Grade of "+short(a), got, asked)
	}
}

// grades fails unless grade up and grade down answer these arrays.
func grades(t *testing.T, a, up, down api.Array) {
	t.Helper()
	got, e := pick.Grade(a, false)
	want(t, "Grade up of "+short(a), e, api.OK)
	is(t, "Grade up of "+short(a), got, up)
	got, e = pick.Grade(a, true)
	want(t, "Grade down of "+short(a), e, api.OK)
	is(t, "Grade down of "+short(a), got, down)
	ranks(t, a)
}

// The chapter's example.
func TestGrade(t *testing.T) {
	grades(t, vector(3, 1, 3, 2), vector(2, 4, 1, 3), vector(1, 3, 4, 2))
}

// Equal elements stay in the order of their indices, up and down.
func TestGradeOfEqualElements(t *testing.T) {
	grades(t, vector(5, 5, 5), vector(1, 2, 3), vector(1, 2, 3))
	grades(t, vector(2, 1, 2, 1, 2, 1), vector(2, 4, 6, 1, 3, 5), vector(1, 3, 5, 2, 4, 6))
	grades(t, vector(0, -1, 0, 1, 0), vector(2, 1, 3, 5, 4), vector(4, 1, 3, 5, 2))
	l := vector()
	for i := range int64(4096) {
		l.Elems = append(l.Elems, i*i%5)
	}
	l.Shape = []int{4096}
	ranks(t, l)
	grades(t, vector(make([]int64, 4096)...), told(1, 1, 4096), told(1, 1, 4096))
}

// What is sorted already, and what is sorted in reverse.
func TestGradeOfWhatIsSorted(t *testing.T) {
	grades(t, vector(1, 2, 3, 4), vector(1, 2, 3, 4), vector(4, 3, 2, 1))
	grades(t, vector(4, 3, 2, 1), vector(4, 3, 2, 1), vector(1, 2, 3, 4))
	reverse := vector()
	for i := range int64(4096) {
		reverse.Elems = append(reverse.Elems, 4096-i)
	}
	reverse.Shape = []int{4096}
	grades(t, told(1, 1, 4096), told(1, 1, 4096), reverse)
	grades(t, reverse, reverse, told(1, 1, 4096))
}

// One element, and none.
func TestGradeOfFew(t *testing.T) {
	grades(t, vector(7), vector(1), vector(1))
	grades(t, vector(least), vector(1), vector(1))
	grades(t, text("a", 1), vector(1), vector(1))
	grades(t, vector(), vector(), vector())
	grades(t, text("", 0), vector(), vector())
}

// Characters are sorted by their numbers, and their indices are numbers.
func TestGradeOfCharacters(t *testing.T) {
	grades(t, text("hello", 5), vector(2, 1, 3, 4, 5), vector(5, 3, 4, 1, 2))
	grades(t, text("bAa", 3), vector(2, 3, 1), vector(1, 3, 2))
	grades(t, chars([]int{4}, 0x10FFFF, 0, 0xE000, 0xD7FF), vector(2, 4, 3, 1), vector(1, 3, 4, 2))
}

// The least and the greatest number, whose differences are no numbers of 64 bits.
func TestGradeOfTheLeastAndTheGreatest(t *testing.T) {
	grades(t, vector(greatest, least), vector(2, 1), vector(1, 2))
	grades(t, vector(0, greatest, -1, least, 1), vector(4, 3, 1, 5, 2), vector(2, 5, 1, 3, 4))
	grades(t, vector(least, greatest, least, greatest), vector(1, 3, 2, 4), vector(2, 4, 1, 3))
	grades(t, vector(least+1, least, greatest, greatest-1), vector(2, 1, 4, 3), vector(3, 4, 1, 2))
	grades(t, vector(-2, greatest), vector(1, 2), vector(2, 1))
	grades(t, vector(1<<32, 1, 1<<33, 2), vector(2, 4, 1, 3), vector(3, 1, 4, 2))
}

// Only a vector has a grade.
func TestGradeOfWhatIsNoVector(t *testing.T) {
	for _, shape := range goodShapes() {
		for kind := 1; kind <= 2; kind++ {
			a := told(kind, 97, shape...)
			ranks(t, a)
			for _, down := range []bool{false, true} {
				if got, e := pick.Grade(a, down); len(shape) != 1 {
					want(t, "Grade of "+short(a), e, api.ErrRank)
					is(t, "Grade, beside its error", got, api.Array{})
				}
			}
		}
	}
}

func TestGradeAtRandom(t *testing.T) {
	r := noise(7)
	for range 3000 {
		a, few := api.Array{Kind: 1 + r.below(2), Shape: []int{r.below(40)}}, 1+r.below(60)
		for range a.Shape[0] {
			x := int64(r.below(few))
			if a.Kind == 1 && r.below(4) == 0 {
				x = int64(r.next())
			}
			a.Elems = append(a.Elems, x)
		}
		ranks(t, a)
	}
}
