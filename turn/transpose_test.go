package turn_test

import "testing"

// The chapter's example, and what other arrays become.
func TestTranspose(t *testing.T) {
	makesOne(t, "Transpose", told(1, 1, 2, 3), nums([]int{3, 2}, 1, 4, 2, 5, 3, 6))
	makesOne(t, "Transpose", number(7), number(7))
	makesOne(t, "Transpose", vector(), vector())
	makesOne(t, "Transpose", vector(7), vector(7))
	makesOne(t, "Transpose", vector(1, 2, 3), vector(1, 2, 3))
	makesOne(t, "Transpose", told(1, 1, 2, 2), nums([]int{2, 2}, 1, 3, 2, 4))
	makesOne(t, "Transpose", told(1, 1, 1, 3), told(1, 1, 3, 1))
	makesOne(t, "Transpose", told(1, 1, 3, 1), told(1, 1, 1, 3))
	makesOne(t, "Transpose", nums([]int{2, 2}, least, greatest, -1, 0), nums([]int{2, 2}, least, -1, greatest, 0))
}

// With more axes, the result's axes are those of the array from the last one to the first.
func TestTransposeOfMoreAxes(t *testing.T) {
	makesOne(t, "Transpose", told(1, 0, 2, 2, 3), nums([]int{3, 2, 2}, 0, 6, 3, 9, 1, 7, 4, 10, 2, 8, 5, 11))
	makesOne(t, "Transpose", told(1, 1, 1, 2, 3), nums([]int{3, 2, 1}, 1, 4, 2, 5, 3, 6))
	makesOne(t, "Transpose", told(1, 1, 2, 1, 1, 3), nums([]int{3, 1, 1, 2}, 1, 4, 2, 5, 3, 6))
	makesOne(t, "Transpose", told(1, 1, 2, 1, 2, 2), nums([]int{2, 2, 1, 2}, 1, 5, 3, 7, 2, 6, 4, 8))
}

func TestTransposeOfCharacters(t *testing.T) {
	makesOne(t, "Transpose", text("abcdef", 2, 3), text("adbecf", 3, 2))
	makesOne(t, "Transpose", text("a"), text("a"))
	makesOne(t, "Transpose", text("it's", 4), text("it's", 4))
	makesOne(t, "Transpose", text("abcd", 2, 1, 2), text("acbd", 2, 1, 2))
}

func TestTransposeOfArraysWithoutElements(t *testing.T) {
	for _, c := range [][2][]int{{{0}, {0}}, {{0, 3}, {3, 0}}, {{3, 0}, {0, 3}}, {{0, 4096}, {4096, 0}}, {{0, 2, 5}, {5, 2, 0}}, {{4096, 4095, 0}, {0, 4095, 4096}}, {{1, 2, 0, 4}, {4, 0, 2, 1}}} {
		makesOne(t, "Transpose", nums(c[0]), nums(c[1]))
		makesOne(t, "Transpose", chars(c[0]), chars(c[1]))
	}
}
