package scalar_test

import (
	"slices"
	"testing"

	"quadrat/api"
)

// gives fails unless a function of two numbers answers what is asked for.
func gives(t *testing.T, f int, x, y int64, asked answer) {
	t.Helper()
	if twoOf(f, x, y) != asked {
		t.Fatalf("the test itself has %v for %d of %d and %d, want %v", twoOf(f, x, y), f, x, y, asked)
	}
	if got := two(f, x, y); got != asked {
		t.Errorf("Two(%d, %d, %d) is %v, want %v", f, x, y, got, asked)
	}
}

// givesOne fails unless a function of one number answers what is asked for.
func givesOne(t *testing.T, f int, y int64, asked answer) {
	t.Helper()
	if oneOf(f, y) != asked {
		t.Fatalf("the test itself has %v for %d of %d, want %v", oneOf(f, y), f, y, asked)
	}
	if got := one(f, y); got != asked {
		t.Errorf("One(%d, %d) is %v, want %v", f, y, got, asked)
	}
}

// The chapter's examples.
func TestExamplesOfNumbers(t *testing.T) {
	gives(t, api.FnDiv, -7, 2, number(-4))
	gives(t, api.FnRem, 2, -7, number(1))
	gives(t, api.FnRem, -2, 7, number(-1))
	gives(t, api.FnRem, 0, 5, number(5))
	gives(t, api.FnPow, -2, 63, number(least))
	gives(t, api.FnPow, 2, 63, overflow())
	gives(t, api.FnPow, -1, -3, number(-1))
	gives(t, api.FnPow, 0, -1, fault(api.ErrDomain))
	givesOne(t, api.FnSub, least, overflow())
	givesOne(t, api.FnMul, -5, number(-1))
	givesOne(t, api.FnNot, 2, fault(api.ErrDomain))
}

func TestSums(t *testing.T) {
	gives(t, api.FnAdd, 2, 3, number(5))
	gives(t, api.FnAdd, 2, -3, number(-1))
	gives(t, api.FnAdd, greatest, 0, number(greatest))
	gives(t, api.FnAdd, greatest-1, 1, number(greatest))
	gives(t, api.FnAdd, greatest, 1, overflow())
	gives(t, api.FnAdd, 1, greatest, overflow())
	gives(t, api.FnAdd, greatest, greatest, overflow())
	gives(t, api.FnAdd, 1<<62, 1<<62-1, number(greatest))
	gives(t, api.FnAdd, 1<<62, 1<<62, overflow())
	gives(t, api.FnAdd, 0, least, number(least))
	gives(t, api.FnAdd, least+1, -1, number(least))
	gives(t, api.FnAdd, least, -1, overflow())
	gives(t, api.FnAdd, -1, least, overflow())
	gives(t, api.FnAdd, least, least, overflow())
	gives(t, api.FnAdd, -1<<62, -1<<62, number(least))
	gives(t, api.FnAdd, -1<<62, -1<<62-1, overflow())
	gives(t, api.FnAdd, least, greatest, number(-1))
	gives(t, api.FnAdd, greatest, least, number(-1))
}

func TestDifferences(t *testing.T) {
	gives(t, api.FnSub, 2, 3, number(-1))
	gives(t, api.FnSub, 2, -3, number(5))
	gives(t, api.FnSub, least, 0, number(least))
	gives(t, api.FnSub, least+1, 1, number(least))
	gives(t, api.FnSub, least, 1, overflow())
	gives(t, api.FnSub, greatest, -1, overflow())
	gives(t, api.FnSub, greatest-1, -1, number(greatest))
	gives(t, api.FnSub, 0, greatest, number(least+1))
	gives(t, api.FnSub, -1, greatest, number(least))
	gives(t, api.FnSub, -2, greatest, overflow())
	gives(t, api.FnSub, 0, least, overflow())
	gives(t, api.FnSub, 1, least, overflow())
	gives(t, api.FnSub, -1, least, number(greatest))
	gives(t, api.FnSub, least, least, number(0))
	gives(t, api.FnSub, greatest, least, overflow())
	gives(t, api.FnSub, least, greatest, overflow())
	gives(t, api.FnSub, greatest, greatest, number(0))
}

func TestProducts(t *testing.T) {
	gives(t, api.FnMul, 6, 7, number(42))
	gives(t, api.FnMul, -6, 7, number(-42))
	gives(t, api.FnMul, 6, -7, number(-42))
	gives(t, api.FnMul, -6, -7, number(42))
	for _, n := range edges() {
		gives(t, api.FnMul, n, 0, number(0))
		gives(t, api.FnMul, 0, n, number(0))
		gives(t, api.FnMul, n, 1, number(n))
		gives(t, api.FnMul, 1, n, number(n))
	}
	gives(t, api.FnMul, least, -1, overflow())
	gives(t, api.FnMul, -1, least, overflow())
	gives(t, api.FnMul, greatest, -1, number(least+1))
	gives(t, api.FnMul, -1, greatest, number(least+1))
	gives(t, api.FnMul, -1, -1, number(1))
	gives(t, api.FnMul, 1<<62, 2, overflow())
	gives(t, api.FnMul, -2, 1<<62, number(least))
	gives(t, api.FnMul, -1<<62, 2, number(least))
	gives(t, api.FnMul, -1<<62, -2, overflow())
	gives(t, api.FnMul, -1<<62-1, 2, overflow())
	gives(t, api.FnMul, 1<<32, 1<<31-1, number(greatest-1<<32+1))
	gives(t, api.FnMul, 1<<32, 1<<31, overflow())
	gives(t, api.FnMul, 1<<32, 1<<32, overflow())
	gives(t, api.FnMul, 1<<32, -1<<31, number(least))
	gives(t, api.FnMul, 3037000499, 3037000499, number(9223372030926249001))
	gives(t, api.FnMul, 3037000500, 3037000500, overflow())
	gives(t, api.FnMul, -3037000500, 3037000500, overflow())
	gives(t, api.FnMul, 7, 1317624576693539401, number(greatest))
	gives(t, api.FnMul, 49, 188232082384791343, number(greatest))
	gives(t, api.FnMul, 49, 188232082384791344, overflow())
	gives(t, api.FnMul, least, least, overflow())
	gives(t, api.FnMul, greatest, greatest, overflow())
	gives(t, api.FnMul, least, greatest, overflow())
	gives(t, api.FnMul, least, 2, overflow())
}

func TestQuotients(t *testing.T) {
	for _, c := range []struct{ x, y, asked int64 }{
		{7, 2, 3}, {-7, 2, -4}, {7, -2, -4}, {-7, -2, 3},
		{8, 2, 4}, {-8, 2, -4}, {8, -2, -4}, {-8, -2, 4},
		{1, 2, 0}, {-1, 2, -1}, {1, -2, -1}, {-1, -2, 0},
		{0, 5, 0}, {0, -5, 0}, {0, greatest, 0}, {0, least, 0},
		{5, 1, 5}, {5, -1, -5}, {-5, -1, 5}, {greatest, -1, least + 1}, {least, 1, least}, {least + 1, -1, greatest},
		{least, 2, -1 << 62}, {least, -2, 1 << 62}, {greatest, 2, 1<<62 - 1}, {greatest, -2, -1 << 62},
		{least, least, 1}, {greatest, greatest, 1}, {least, greatest, -2}, {greatest, least, -1}, {1, least, -1}, {-1, least, 0}, {-1, greatest, -1},
		{least, 3, -3074457345618258603}, {least, -3, 3074457345618258602}, {99, 10, 9}, {-99, 10, -10}, {-100, 10, -10}, {-101, 10, -11},
	} {
		gives(t, api.FnDiv, c.x, c.y, number(c.asked))
	}
	gives(t, api.FnDiv, least, -1, overflow())
	for _, n := range edges() {
		gives(t, api.FnDiv, n, 0, fault(api.ErrZero))
	}
}

func TestResidues(t *testing.T) {
	for _, c := range []struct{ x, y, asked int64 }{
		{2, 7, 1}, {2, -7, 1}, {-2, 7, -1}, {-2, -7, -1},
		{2, 8, 0}, {2, -8, 0}, {-2, 8, 0}, {-2, -8, 0},
		{5, 1, 1}, {5, -1, 4}, {-5, 1, -4}, {-5, -1, -1},
		{5, 0, 0}, {-5, 0, 0}, {1, 5, 0}, {-1, 5, 0}, {1, least, 0}, {-1, greatest, 0},
		{-1, least, 0}, {least, least, 0}, {greatest, greatest, 0}, {least, 0, 0},
		{greatest, least, greatest - 1}, {least, greatest, -1}, {least, 1, least + 1}, {least, -1, -1}, {greatest, -1, greatest - 1}, {greatest, 1, 1},
		{3, least, 1}, {-3, least, -2}, {10, greatest, 7}, {10, least, 2}, {-10, least, -8}, {-10, greatest, -3},
		{1 << 62, least, 0}, {1 << 62, -1, 1<<62 - 1}, {-1 << 62, 1, 1 - 1<<62},
	} {
		gives(t, api.FnRem, c.x, c.y, number(c.asked))
	}
	for _, n := range edges() {
		gives(t, api.FnRem, 0, n, number(n))
	}
}

func TestMinimaAndMaxima(t *testing.T) {
	for _, c := range [][2]int64{{0, 0}, {1, 2}, {-2, 1}, {-2, -1}, {least, greatest}, {least, least}, {greatest - 1, greatest}, {least, -1}, {0, greatest}, {-1, 1 << 32}} {
		small, great := c[0], c[1]
		gives(t, api.FnMin, small, great, number(small))
		gives(t, api.FnMin, great, small, number(small))
		gives(t, api.FnMax, small, great, number(great))
		gives(t, api.FnMax, great, small, number(great))
	}
}

func TestComparisons(t *testing.T) {
	rising := []int64{least, least + 1, -1 << 32, -2, -1, 0, 1, 2, 1 << 32, greatest - 1, greatest}
	for i, x := range rising {
		for j, y := range rising {
			gives(t, api.FnEq, x, y, truthOf(i == j))
			gives(t, api.FnNe, x, y, truthOf(i != j))
			gives(t, api.FnLt, x, y, truthOf(i < j))
			gives(t, api.FnLe, x, y, truthOf(i <= j))
			gives(t, api.FnGe, x, y, truthOf(i >= j))
			gives(t, api.FnGt, x, y, truthOf(i > j))
		}
	}
}

func TestAndOrNot(t *testing.T) {
	for _, c := range []struct{ x, y, and, or int64 }{{0, 0, 0, 0}, {0, 1, 0, 1}, {1, 0, 0, 1}, {1, 1, 1, 1}} {
		gives(t, api.FnAnd, c.x, c.y, number(c.and))
		gives(t, api.FnOr, c.x, c.y, number(c.or))
	}
	givesOne(t, api.FnNot, 0, number(1))
	givesOne(t, api.FnNot, 1, number(0))
	for _, n := range edges() {
		if n == 0 || n == 1 {
			continue
		}
		for _, other := range []int64{0, 1, n, -1, 2} {
			for _, f := range []int{api.FnAnd, api.FnOr} {
				gives(t, f, n, other, fault(api.ErrDomain))
				gives(t, f, other, n, fault(api.ErrDomain))
			}
		}
		givesOne(t, api.FnNot, n, fault(api.ErrDomain))
	}
}

func TestFunctionsOfOneNumber(t *testing.T) {
	for _, c := range []struct{ y, opposite, sign, magnitude int64 }{
		{0, 0, 0, 0}, {1, -1, 1, 1}, {-1, 1, -1, 1}, {5, -5, 1, 5}, {-5, 5, -1, 5}, {1 << 32, -1 << 32, 1, 1 << 32}, {-1 << 32, 1 << 32, -1, 1 << 32},
		{greatest, least + 1, 1, greatest}, {least + 1, greatest, -1, greatest},
	} {
		givesOne(t, api.FnAdd, c.y, number(c.y))
		givesOne(t, api.FnSub, c.y, number(c.opposite))
		givesOne(t, api.FnMul, c.y, number(c.sign))
		givesOne(t, api.FnRem, c.y, number(c.magnitude))
	}
	givesOne(t, api.FnAdd, least, number(least))
	givesOne(t, api.FnSub, least, overflow())
	givesOne(t, api.FnMul, least, number(-1))
	givesOne(t, api.FnRem, least, overflow())
}

func TestNumbersThatAreNoFunctions(t *testing.T) {
	for _, y := range []int64{0, 1, 2, -1, greatest, least} {
		for _, f := range without(unary) {
			givesOne(t, f, y, fault(api.ErrArg))
		}
		for _, x := range []int64{0, 1, 2, -1, greatest, least} {
			for _, f := range without(binary) {
				gives(t, f, x, y, fault(api.ErrArg))
			}
		}
	}
}

// The result for two numbers is the exact one, or an error; the same holds for one number.
func TestNumbersAreExact(t *testing.T) {
	l := edges()
	for _, f := range anyFunctions() {
		for _, y := range l {
			givesOne(t, f, y, oneOf(f, y))
		}
	}
	for _, f := range binary {
		for _, x := range l {
			for _, y := range l {
				gives(t, f, x, y, twoOf(f, x, y))
			}
		}
	}
	r := noise(12)
	for range 200_000 {
		f, x, y := binary[r.below(len(binary))], r.number(), r.number()
		gives(t, f, x, y, twoOf(f, x, y))
		f = unary[r.below(len(unary))]
		givesOne(t, f, y, oneOf(f, y))
	}
}

// All small numbers with each other, where each sign, each rest and each truth comes up.
func TestSmallNumbers(t *testing.T) {
	for _, f := range binary {
		for x := int64(-20); x <= 20; x++ {
			for y := int64(-20); y <= 20; y++ {
				gives(t, f, x, y, twoOf(f, x, y))
			}
		}
	}
}

// A quotient times the divisor, plus the residue, is the dividend, and the residue lies between 0 and the divisor.
func TestQuotientsAndResiduesGoTogether(t *testing.T) {
	r := noise(7)
	l := edges()
	for range 300 {
		l = append(l, r.number())
	}
	overflows := 0
	for _, x := range l {
		for _, y := range l {
			quotient, residue := two(api.FnDiv, x, y), two(api.FnRem, y, x)
			switch {
			case residue.e != api.OK:
				t.Errorf("%d modulo %d is error %d", x, y, residue.e)
			case y == 0 && (quotient != fault(api.ErrZero) || residue.n != x):
				t.Errorf("%d by 0 is %v, and leaves %d", x, quotient, residue.n)
			case y == 0:
			case quotient.e != api.OK:
				overflows++
				if x != least || y != -1 || quotient != overflow() || residue.n != 0 {
					t.Errorf("%d by %d is %v, and leaves %d", x, y, quotient, residue.n)
				}
			default:
				sum := of(quotient.n)
				sum.Mul(sum, of(y)).Add(sum, of(residue.n))
				if sum.Cmp(of(x)) != 0 || residue.n != 0 && (residue.n < 0) != (y < 0) || of(residue.n).CmpAbs(of(y)) >= 0 {
					t.Errorf("%d by %d is %d and leaves %d", x, y, quotient.n, residue.n)
				}
			}
		}
	}
	if overflows == 0 {
		t.Error("the least number was never divided by -1")
	}
}

// What One and Two answer hangs on their arguments alone, not on what was asked before.
func TestAnswersHangOnArgumentsAlone(t *testing.T) {
	r := noise(3)
	l := edges()
	for range 20_000 {
		f, x, y := binary[r.below(len(binary))], l[r.below(len(l))], l[r.below(len(l))]
		first := two(f, x, y)
		two(binary[r.below(len(binary))], y, x)
		one(unary[r.below(len(unary))], y)
		if again := two(f, x, y); again != first {
			t.Errorf("Two(%d, %d, %d) is %v, then %v", f, x, y, first, again)
		}
	}
	if !slices.Equal(l, edges()) {
		t.Error("the numbers themselves have changed")
	}
}
