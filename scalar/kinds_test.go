package scalar_test

import (
	"slices"
	"testing"

	"quadrat/api"
	"quadrat/scalar"
)

// anyKinds are the two kinds, and numbers that are none.
func anyKinds() []int {
	return []int{1, 2, 0, 3, 4, -1, -2, -3, 257, 258, 1<<32 + 1, 1<<32 + 2, least, greatest}
}

// kindsOf is what Kinds has to answer, as the chapter words it.
func kindsOf(f, a, b int) api.Errno {
	isKind := func(kind int) bool { return kind == 1 || kind == 2 }
	switch {
	case !slices.Contains(binary, f), !isKind(a), !isKind(b):
		return api.ErrArg
	case (a == 2 || b == 2) && f != 9 && f != 10:
		return api.ErrDomain
	}
	return api.OK
}

// mixed fails unless Mixed answers what Kinds does, and, without an error, a function, which it returns; otherwise it returns nil.
func mixed(t *testing.T, f, a, b int) func(x, y int64) (int64, api.Errno) {
	t.Helper()
	of, e := scalar.Mixed(f, a, b)
	if e != kindsOf(f, a, b) || (of == nil) != (e != api.OK) {
		t.Errorf("Mixed(%d, %d, %d): error %d, and there is no function: %v", f, a, b, e, of == nil)
		return nil
	}
	return of
}

func TestKinds(t *testing.T) {
	for _, f := range anyFunctions() {
		for _, a := range anyKinds() {
			for _, b := range anyKinds() {
				if got := scalar.Kinds(f, a, b); got != kindsOf(f, a, b) {
					t.Errorf("Kinds(%d, %d, %d) is %d, want %d", f, a, b, got, kindsOf(f, a, b))
				}
				mixed(t, f, a, b)
			}
		}
	}
	for _, c := range []struct {
		f, a, b int
		asked   api.Errno
	}{
		{api.FnAdd, 1, 1, api.OK}, {api.FnAdd, 2, 1, api.ErrDomain}, {api.FnAdd, 1, 2, api.ErrDomain}, {api.FnAdd, 2, 2, api.ErrDomain}, {api.FnLt, 2, 1, api.ErrDomain}, {api.FnGt, 2, 2, api.ErrDomain}, {api.FnOr, 1, 1, api.OK},
		{api.FnEq, 1, 1, api.OK}, {api.FnEq, 2, 1, api.OK}, {api.FnEq, 1, 2, api.OK}, {api.FnEq, 2, 2, api.OK}, {api.FnNe, 2, 1, api.OK}, {api.FnNe, 2, 2, api.OK},
		{api.FnEq, 0, 2, api.ErrArg}, {api.FnEq, 2, 3, api.ErrArg}, {api.FnAdd, 2, 0, api.ErrArg}, {api.FnAdd, 3, 2, api.ErrArg}, {api.FnAdd, -1, 1, api.ErrArg}, {api.FnNe, 1, -1, api.ErrArg},
		{api.FnNot, 1, 1, api.ErrArg}, {api.FnNot, 2, 2, api.ErrArg}, {0, 1, 1, api.ErrArg}, {18, 2, 2, api.ErrArg}, {api.FnRho, 1, 1, api.ErrArg},
	} {
		want(t, "Kinds", scalar.Kinds(c.f, c.a, c.b), c.asked)
	}
}

func TestMixedOfNumbers(t *testing.T) {
	for _, f := range binary {
		of := mixed(t, f, 1, 1)
		if of == nil {
			continue
		}
		for _, x := range edges() {
			for _, y := range edges() {
				if n, e := of(x, y); (answer{n, e}) != twoOf(f, x, y) {
					t.Errorf("Mixed(%d, 1, 1) of %d and %d: error %d and %d, want %v", f, x, y, e, n, twoOf(f, x, y))
				}
			}
		}
	}
}

// Whatever the numbers of two elements are, Mixed holds them against each other only if their kinds are equal.
func TestMixedOfOtherKinds(t *testing.T) {
	for _, kinds := range [][2]int{{1, 1}, {1, 2}, {2, 1}, {2, 2}} {
		a, b := kinds[0], kinds[1]
		equal, unequal := mixed(t, api.FnEq, a, b), mixed(t, api.FnNe, a, b)
		if equal == nil || unequal == nil {
			continue
		}
		for _, x := range []int64{0, 1, 2, 48, 97, 98, 0x10FFFF} {
			for _, y := range []int64{0, 1, 2, 48, 97, 98, 0x10FFFF} {
				n, e := equal(x, y)
				if (answer{n, e}) != truthOf(a == b && x == y) {
					t.Errorf("= of %d, of kind %d, and %d, of kind %d: error %d and %d", x, a, y, b, e, n)
				}
				n, e = unequal(x, y)
				if (answer{n, e}) != truthOf(a != b || x != y) {
					t.Errorf("≠ of %d, of kind %d, and %d, of kind %d: error %d and %d", x, a, y, b, e, n)
				}
			}
		}
	}
}

// A function that Mixed has answered goes on as it is, whatever is asked for behind it.
func TestMixedFunctionsStay(t *testing.T) {
	type asked struct {
		f, a, b int
		of      func(x, y int64) (int64, api.Errno)
	}
	var l []asked
	for _, f := range binary {
		l = append(l, asked{f, 1, 1, mixed(t, f, 1, 1)})
	}
	for _, f := range []int{9, 10} {
		l = append(l, asked{f, 2, 2, mixed(t, f, 2, 2)}, asked{f, 1, 2, mixed(t, f, 1, 2)}, asked{f, 2, 1, mixed(t, f, 2, 1)})
	}
	for range 3 {
		for _, c := range l {
			for _, x := range []int64{0, 1, 7, -7, greatest} {
				for _, y := range []int64{0, 1, 7, -2, least} {
					want := twoOf(c.f, x, y)
					if c.a != c.b {
						want = truthOf(c.f == 10)
					}
					if n, e := c.of(x, y); (answer{n, e}) != want {
						t.Errorf("Mixed(%d, %d, %d) of %d and %d: error %d and %d, want %v", c.f, c.a, c.b, x, y, e, n, want)
					}
				}
			}
		}
	}
}
