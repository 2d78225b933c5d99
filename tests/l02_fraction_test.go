package tests

import (
	"math"
	"math/big"
	"slices"
	"testing"

	"loop.example/g00980/impl"
)

// maxFactor is the greatest Num of FracMul and FracDiv; the document gives it no name.
const maxFactor = 1000000

type fracOperation func(a impl.Frac, b impl.Frac) (impl.Frac, bool)

type fracCase struct {
	a, b, want impl.Frac
	ok         bool
}

func checkFracCases(t *testing.T, name string, operation fracOperation, cases []fracCase) {
	t.Helper()
	for _, c := range cases {
		if got, ok := operation(c.a, c.b); got != c.want || ok != c.ok {
			t.Errorf("%s(%v, %v) = %v, %v, want %v, %v", name, c.a, c.b, got, ok, c.want, c.ok)
		}
	}
}

func frac(num int, den int) impl.Frac { return impl.Frac{Num: num, Den: den} }

// invalidFracs are all invalid for one reason alone.
func invalidFracs() []impl.Frac {
	return []impl.Frac{
		{}, frac(1, 0), frac(-1, 0), frac(1, -1), frac(-1, -1), frac(3, -4), frac(0, -1),
		frac(0, 2), frac(0, impl.MaxDen), frac(2, 2), frac(2, 4), frac(-6, 9), frac(5, 5), frac(-5, 5),
		frac(1, impl.MaxDen+1), frac(-1, impl.MaxDen+1), frac(1, -impl.MaxDen), frac(impl.MaxDen, impl.MaxDen),
		frac(impl.MaxNum+1, 1), frac(-impl.MaxNum-1, 1), frac(impl.MaxNum, 2), frac(-impl.MaxNum, 5),
		frac(math.MaxInt, 1), frac(math.MinInt, 1), frac(1, math.MaxInt), frac(1, math.MinInt),
		frac(math.MinInt, math.MinInt), frac(math.MaxInt, math.MaxInt), frac(math.MinInt, 0), frac(0, math.MinInt),
	}
}

// validFracs holds the ends of the ranges and enough between them for every law to be tried.
func validFracs() []impl.Frac {
	fracs := []impl.Frac{
		frac(0, 1), frac(1, impl.MaxDen), frac(-1, impl.MaxDen), frac(999999, impl.MaxDen), frac(1, 999983),
		frac(impl.MaxNum, 1), frac(-impl.MaxNum, 1), frac(impl.MaxNum-1, 1), frac(impl.MaxNum, 3), frac(-impl.MaxNum, 999999),
		frac(impl.MaxNum-1, impl.MaxDen), frac(1-impl.MaxNum, impl.MaxDen), frac(impl.MaxNum-1, 999983),
		frac(maxFactor, 1), frac(-maxFactor, 1), frac(maxFactor+1, 1), frac(-maxFactor-1, 1), frac(maxFactor-1, maxFactor),
		frac(maxFactor, 999999), frac(-maxFactor, 999983), frac(maxFactor+1, 1000), frac(1000, 999999), frac(999, 1000),
	}
	for den := 1; den <= 7; den++ {
		for num := -7; num <= 7; num++ {
			if num != 0 && new(big.Int).GCD(nil, nil, big.NewInt(int64(max(num, -num))), big.NewInt(int64(den))).Int64() == 1 {
				fracs = append(fracs, frac(num, den))
			}
		}
	}
	return fracs
}

func ratOf(a impl.Frac) *big.Rat { return big.NewRat(int64(a.Num), int64(a.Den)) }

// validOf is the valid fraction with the value of r, worked out without the package.
func validOf(r *big.Rat) (impl.Frac, bool) {
	limitNum, limitDen := big.NewInt(impl.MaxNum), big.NewInt(impl.MaxDen)
	if r.Num().CmpAbs(limitNum) > 0 || r.Denom().Cmp(limitDen) > 0 {
		return impl.Frac{}, false
	}
	return frac(int(r.Num().Int64()), int(r.Denom().Int64())), true
}

func TestFracLimits(t *testing.T) {
	got := []int{impl.MaxNum, impl.MaxDen}
	if want := []int{1000000000000, 1000000}; !slices.Equal(got, want) {
		t.Errorf("limits are %v, want %v", got, want)
	}
}

func TestFracOk(t *testing.T) {
	for _, a := range validFracs() {
		if !impl.FracOk(a) {
			t.Errorf("FracOk(%v) is false", a)
		}
	}
	for _, a := range invalidFracs() {
		if impl.FracOk(a) {
			t.Errorf("FracOk(%v) is true", a)
		}
	}
}

// TestFracOkLowestTerms tries every pair of small numbers, and the common divisors near the limits.
func TestFracOkLowestTerms(t *testing.T) {
	for num := -40; num <= 40; num++ {
		for den := -5; den <= 40; den++ {
			want := den >= 1
			for d := 2; d <= 40; d++ {
				want = want && (num%d != 0 || den%d != 0)
			}
			if got := impl.FracOk(frac(num, den)); got != want {
				t.Errorf("FracOk(%d/%d) is %v", num, den, got)
			}
		}
	}
	for _, a := range []impl.Frac{frac(999983*1000003, 999983), frac(-999983*2, 999983), frac(impl.MaxNum-impl.MaxDen, impl.MaxDen)} {
		if impl.FracOk(a) {
			t.Errorf("FracOk(%v) is true", a)
		}
	}
}

func TestFracNew(t *testing.T) {
	for _, c := range []struct {
		num, den int
		want     impl.Frac
		ok       bool
	}{
		{1, 2, frac(1, 2), true},
		{6, 8, frac(3, 4), true},
		{6, -8, frac(-3, 4), true},
		{-6, 8, frac(-3, 4), true},
		{-6, -8, frac(3, 4), true},
		{1, -1, frac(-1, 1), true},
		{-1, -1, frac(1, 1), true},
		{7, 7, frac(1, 1), true},
		{7, -7, frac(-1, 1), true},
		{0, 1, frac(0, 1), true},
		{0, 5, frac(0, 1), true},
		{0, -5, frac(0, 1), true},
		{0, impl.MaxNum, frac(0, 1), true},
		{0, -impl.MaxNum, frac(0, 1), true},
		{impl.MaxNum, 1, frac(impl.MaxNum, 1), true},
		{-impl.MaxNum, 1, frac(-impl.MaxNum, 1), true},
		{impl.MaxNum, -1, frac(-impl.MaxNum, 1), true},
		{-impl.MaxNum, -1, frac(impl.MaxNum, 1), true},
		{impl.MaxNum, impl.MaxNum, frac(1, 1), true},
		{impl.MaxNum, -impl.MaxNum, frac(-1, 1), true},
		{impl.MaxNum / impl.MaxDen, impl.MaxNum, frac(1, impl.MaxDen), true},
		{impl.MaxNum / impl.MaxDen, -impl.MaxNum, frac(-1, impl.MaxDen), true},
		{1, impl.MaxDen, frac(1, impl.MaxDen), true},
		{1, -impl.MaxDen, frac(-1, impl.MaxDen), true},
		{2, impl.MaxDen + 2, frac(1, impl.MaxDen/2+1), true},
		{1000003, 1000003, frac(1, 1), true},
		{1, 0, impl.Frac{}, false},
		{0, 0, impl.Frac{}, false},
		{-1, 0, impl.Frac{}, false},
		{1, impl.MaxDen + 1, impl.Frac{}, false},
		{1, -impl.MaxDen - 1, impl.Frac{}, false},
		{2, 2*impl.MaxDen + 2, impl.Frac{}, false},
		{1, impl.MaxNum, impl.Frac{}, false},
		{1, -impl.MaxNum, impl.Frac{}, false},
		{impl.MaxNum - 1, impl.MaxNum, impl.Frac{}, false},
		{impl.MaxNum + 1, 1, impl.Frac{}, false},
		{-impl.MaxNum - 1, 1, impl.Frac{}, false},
		{impl.MaxNum + 2, 2, impl.Frac{}, false},
		{-impl.MaxNum - 2, 2, impl.Frac{}, false},
		{1, impl.MaxNum + 1, impl.Frac{}, false},
		{impl.MaxNum + 1, impl.MaxNum + 1, impl.Frac{}, false},
		{0, impl.MaxNum + 1, impl.Frac{}, false},
		{0, -impl.MaxNum - 1, impl.Frac{}, false},
		{impl.MaxNum, impl.MaxNum + impl.MaxDen, impl.Frac{}, false},
		{impl.MaxNum, -impl.MaxNum - impl.MaxDen, impl.Frac{}, false},
		{math.MinInt, 1, impl.Frac{}, false},
		{math.MaxInt, 1, impl.Frac{}, false},
		{1, math.MinInt, impl.Frac{}, false},
		{math.MinInt, math.MinInt, impl.Frac{}, false},
		{math.MaxInt, math.MaxInt, impl.Frac{}, false},
		{math.MinInt, -1, impl.Frac{}, false},
		{math.MinInt, 0, impl.Frac{}, false},
	} {
		if got, ok := impl.FracNew(c.num, c.den); got != c.want || ok != c.ok {
			t.Errorf("FracNew(%d, %d) = %v, %v, want %v, %v", c.num, c.den, got, ok, c.want, c.ok)
		}
	}
}

// TestFracNewValue holds FracNew against exact arithmetic, with both signs of both numbers.
func TestFracNewValue(t *testing.T) {
	parts := []int{1, 2, 3, 4, 6, 12, 30, 1000, 999983, 999999, 1000000, 1000001, 1000003, 2000000, 999999000000, 999999999989, 1000000000000}
	for _, n := range parts {
		for _, d := range parts {
			for _, signs := range [][2]int{{1, 1}, {1, -1}, {-1, 1}, {-1, -1}} {
				num, den := signs[0]*n, signs[1]*d
				want, wantOk := validOf(big.NewRat(int64(num), int64(den)))
				got, ok := impl.FracNew(num, den)
				if got != want || ok != wantOk {
					t.Errorf("FracNew(%d, %d) = %v, %v, want %v, %v", num, den, got, ok, want, wantOk)
				}
				if ok && !impl.FracOk(got) {
					t.Errorf("FracNew(%d, %d) = %v is not valid", num, den, got)
				}
			}
		}
	}
}

func TestFracAdd(t *testing.T) {
	checkFracCases(t, "FracAdd", impl.FracAdd, []fracCase{
		{frac(1, 2), frac(1, 3), frac(5, 6), true},
		{frac(1, 2), frac(1, 2), frac(1, 1), true},
		{frac(1, 6), frac(1, 3), frac(1, 2), true},
		{frac(-3, 4), frac(1, 2), frac(-1, 4), true},
		{frac(-3, 4), frac(3, 4), frac(0, 1), true},
		{frac(0, 1), frac(-5, 7), frac(-5, 7), true},
		{frac(999999, impl.MaxDen), frac(1, impl.MaxDen), frac(1, 1), true},
		{frac(1, 1000), frac(1, 999), frac(1999, 999000), true},
		{frac(impl.MaxNum-1, 1), frac(1, 1), frac(impl.MaxNum, 1), true},
		{frac(1-impl.MaxNum, 1), frac(-1, 1), frac(-impl.MaxNum, 1), true},
		{frac(impl.MaxNum, 1), frac(-impl.MaxNum, 1), frac(0, 1), true},
		{frac(impl.MaxNum-1, 2), frac(1, 2), frac(impl.MaxNum/2, 1), true},
		{frac(impl.MaxNum, 1), frac(1, 1), impl.Frac{}, false},
		{frac(-impl.MaxNum, 1), frac(-1, 1), impl.Frac{}, false},
		{frac(impl.MaxNum, 1), frac(impl.MaxNum, 1), impl.Frac{}, false},
		{frac(impl.MaxNum, 1), frac(1, 2), impl.Frac{}, false},
		{frac(impl.MaxNum, 1), frac(-1, 2), impl.Frac{}, false},
		{frac(1, 1000), frac(1, 1001), impl.Frac{}, false},
		{frac(1, impl.MaxDen), frac(1, 3), impl.Frac{}, false},
		{frac(1, 999983), frac(1, impl.MaxDen), impl.Frac{}, false},
		{frac(impl.MaxNum, 999999), frac(impl.MaxNum-1, impl.MaxDen), impl.Frac{}, false},
		{frac(-impl.MaxNum, 999999), frac(1-impl.MaxNum, impl.MaxDen), impl.Frac{}, false},
	})
}

func TestFracSub(t *testing.T) {
	checkFracCases(t, "FracSub", impl.FracSub, []fracCase{
		{frac(1, 2), frac(1, 3), frac(1, 6), true},
		{frac(1, 3), frac(1, 2), frac(-1, 6), true},
		{frac(3, 4), frac(3, 4), frac(0, 1), true},
		{frac(-3, 4), frac(-3, 4), frac(0, 1), true},
		{frac(1, 2), frac(-1, 2), frac(1, 1), true},
		{frac(0, 1), frac(5, 7), frac(-5, 7), true},
		{frac(5, 7), frac(0, 1), frac(5, 7), true},
		{frac(impl.MaxNum, 1), frac(impl.MaxNum, 1), frac(0, 1), true},
		{frac(impl.MaxNum, 1), frac(1, 1), frac(impl.MaxNum-1, 1), true},
		{frac(impl.MaxNum-1, 1), frac(-1, 1), frac(impl.MaxNum, 1), true},
		{frac(1-impl.MaxNum, 1), frac(1, 1), frac(-impl.MaxNum, 1), true},
		{frac(-impl.MaxNum, 1), frac(1, 1), impl.Frac{}, false},
		{frac(impl.MaxNum, 1), frac(-1, 1), impl.Frac{}, false},
		{frac(impl.MaxNum, 1), frac(-impl.MaxNum, 1), impl.Frac{}, false},
		{frac(impl.MaxNum, 1), frac(1, 2), impl.Frac{}, false},
		{frac(1, 1000), frac(1, 1001), impl.Frac{}, false},
		{frac(1, impl.MaxDen), frac(1, 3), impl.Frac{}, false},
	})
}

func TestFracMul(t *testing.T) {
	checkFracCases(t, "FracMul", impl.FracMul, []fracCase{
		{frac(1, 2), frac(1, 3), frac(1, 6), true},
		{frac(-3, 4), frac(2, 3), frac(-1, 2), true},
		{frac(-3, 4), frac(-4, 3), frac(1, 1), true},
		{frac(0, 1), frac(-5, 7), frac(0, 1), true},
		{frac(-5, 7), frac(0, 1), frac(0, 1), true},
		{frac(0, 1), frac(1, impl.MaxDen), frac(0, 1), true},
		{frac(maxFactor, 1), frac(maxFactor, 1), frac(impl.MaxNum, 1), true},
		{frac(-maxFactor, 1), frac(maxFactor, 1), frac(-impl.MaxNum, 1), true},
		{frac(-maxFactor, 1), frac(-maxFactor, 1), frac(impl.MaxNum, 1), true},
		{frac(1, impl.MaxDen), frac(maxFactor, 1), frac(1, 1), true},
		{frac(1, 1000), frac(1, 1000), frac(1, impl.MaxDen), true},
		{frac(1, impl.MaxDen), frac(2, 1), frac(1, impl.MaxDen/2), true},
		{frac(999983, 1000), frac(1000, 999983), frac(1, 1), true},
		{frac(maxFactor+1, 1), frac(1, 1), impl.Frac{}, false},
		{frac(-maxFactor-1, 1), frac(1, 1), impl.Frac{}, false},
		{frac(1, 1), frac(maxFactor+1, 1), impl.Frac{}, false},
		{frac(1, 1), frac(-maxFactor-1, 1), impl.Frac{}, false},
		{frac(0, 1), frac(maxFactor+1, 1), impl.Frac{}, false},
		{frac(-maxFactor-1, 1), frac(0, 1), impl.Frac{}, false},
		{frac(maxFactor+1, 1000), frac(1000, 999), impl.Frac{}, false},
		{frac(impl.MaxNum, 1), frac(1, maxFactor), impl.Frac{}, false},
		{frac(1, 1000), frac(1, 1001), impl.Frac{}, false},
		{frac(1, impl.MaxDen), frac(1, 2), impl.Frac{}, false},
		{frac(-1, impl.MaxDen), frac(1, impl.MaxDen), impl.Frac{}, false},
		{frac(999983, 1000), frac(999979, 1001), impl.Frac{}, false},
	})
}

func TestFracDiv(t *testing.T) {
	checkFracCases(t, "FracDiv", impl.FracDiv, []fracCase{
		{frac(1, 2), frac(1, 3), frac(3, 2), true},
		{frac(1, 2), frac(-3, 4), frac(-2, 3), true},
		{frac(-1, 2), frac(3, 4), frac(-2, 3), true},
		{frac(-1, 2), frac(-3, 4), frac(2, 3), true},
		{frac(-7, 3), frac(-1, 1), frac(7, 3), true},
		{frac(5, 7), frac(5, 7), frac(1, 1), true},
		{frac(0, 1), frac(5, 7), frac(0, 1), true},
		{frac(0, 1), frac(-5, 7), frac(0, 1), true},
		{frac(0, 1), frac(-maxFactor, 1), frac(0, 1), true},
		{frac(1, 1), frac(maxFactor, 1), frac(1, impl.MaxDen), true},
		{frac(1, 1), frac(-maxFactor, 1), frac(-1, impl.MaxDen), true},
		{frac(maxFactor, 1), frac(1, impl.MaxDen), frac(impl.MaxNum, 1), true},
		{frac(maxFactor, 1), frac(-1, impl.MaxDen), frac(-impl.MaxNum, 1), true},
		{frac(-maxFactor, 1), frac(1, impl.MaxDen), frac(-impl.MaxNum, 1), true},
		{frac(1, impl.MaxDen), frac(1, impl.MaxDen), frac(1, 1), true},
		{frac(-maxFactor, 1), frac(maxFactor, 1), frac(-1, 1), true},
		{frac(1, 1), frac(0, 1), impl.Frac{}, false},
		{frac(0, 1), frac(0, 1), impl.Frac{}, false},
		{frac(-1, 1), frac(0, 1), impl.Frac{}, false},
		{frac(maxFactor+1, 1), frac(1, 1), impl.Frac{}, false},
		{frac(-maxFactor-1, 1), frac(1, 1), impl.Frac{}, false},
		{frac(1, 1), frac(maxFactor+1, 999), impl.Frac{}, false},
		{frac(maxFactor+1, 1), frac(maxFactor+1, 1), impl.Frac{}, false},
		{frac(0, 1), frac(maxFactor+1, 1), impl.Frac{}, false},
		{frac(0, 1), frac(-maxFactor-1, 1), impl.Frac{}, false},
		{frac(impl.MaxNum, 1), frac(maxFactor, 1), impl.Frac{}, false},
		{frac(1, 2), frac(maxFactor, 1), impl.Frac{}, false},
		{frac(1, 2), frac(-maxFactor, 1), impl.Frac{}, false},
		{frac(1, impl.MaxDen), frac(-7, 1), impl.Frac{}, false},
		{frac(999983, 1000), frac(1001, 999979), impl.Frac{}, false},
	})
}

func TestFracCmp(t *testing.T) {
	for _, c := range []struct {
		a, b impl.Frac
		want int
	}{
		{frac(1, 2), frac(1, 2), 0},
		{frac(0, 1), frac(0, 1), 0},
		{frac(-7, 3), frac(-7, 3), 0},
		{frac(1, 3), frac(1, 2), -1},
		{frac(1, 2), frac(1, 3), 1},
		{frac(-1, 3), frac(-1, 2), 1},
		{frac(-1, 2), frac(-1, 3), -1},
		{frac(-1, 2), frac(1, 2), -1},
		{frac(1, impl.MaxDen), frac(0, 1), 1},
		{frac(-1, impl.MaxDen), frac(0, 1), -1},
		{frac(999999, impl.MaxDen), frac(999998, 999999), 1},
		{frac(impl.MaxNum, 1), frac(impl.MaxNum-1, 1), 1},
		{frac(impl.MaxNum, 1), frac(-impl.MaxNum, 1), 1},
		{frac(-impl.MaxNum, 1), frac(impl.MaxNum, 1), -1},
		{frac(impl.MaxNum, 1), frac(impl.MaxNum, 1), 0},
		{frac(impl.MaxNum, 999999), frac(impl.MaxNum-1, impl.MaxDen), 1},
		{frac(impl.MaxNum, 1), frac(1, impl.MaxDen), 1},
	} {
		if got := impl.FracCmp(c.a, c.b); got != c.want {
			t.Errorf("FracCmp(%v, %v) = %d, want %d", c.a, c.b, got, c.want)
		}
	}
}

func TestFracInvalidArguments(t *testing.T) {
	operations := map[string]fracOperation{
		"FracAdd": impl.FracAdd, "FracSub": impl.FracSub, "FracMul": impl.FracMul, "FracDiv": impl.FracDiv,
	}
	half := frac(1, 2)
	for _, bad := range invalidFracs() {
		for _, pair := range [][2]impl.Frac{{bad, half}, {half, bad}, {bad, bad}, {bad, frac(0, 1)}, {frac(0, 1), bad}} {
			for name, operation := range operations {
				if got, ok := operation(pair[0], pair[1]); got != (impl.Frac{}) || ok {
					t.Errorf("%s(%v, %v) = %v, %v, want none, false", name, pair[0], pair[1], got, ok)
				}
			}
			if got := impl.FracCmp(pair[0], pair[1]); got != 2 {
				t.Errorf("FracCmp(%v, %v) = %d, want 2", pair[0], pair[1], got)
			}
		}
	}
}

// TestFracExact holds every operation on every pair against exact arithmetic: the values, and for
// which of them there is a valid fraction.
func TestFracExact(t *testing.T) {
	fits := func(a, b impl.Frac) bool { return max(a.Num, -a.Num, b.Num, -b.Num) <= maxFactor }
	for _, a := range validFracs() {
		for _, b := range validFracs() {
			check := func(name string, operation fracOperation, defined bool, exact func() *big.Rat) {
				var want impl.Frac
				var wantOk bool
				if defined {
					want, wantOk = validOf(exact())
				}
				if got, ok := operation(a, b); got != want || ok != wantOk {
					t.Errorf("%s(%v, %v) = %v, %v, want %v, %v", name, a, b, got, ok, want, wantOk)
				}
			}
			check("FracAdd", impl.FracAdd, true, func() *big.Rat { return new(big.Rat).Add(ratOf(a), ratOf(b)) })
			check("FracSub", impl.FracSub, true, func() *big.Rat { return new(big.Rat).Sub(ratOf(a), ratOf(b)) })
			check("FracMul", impl.FracMul, fits(a, b), func() *big.Rat { return new(big.Rat).Mul(ratOf(a), ratOf(b)) })
			check("FracDiv", impl.FracDiv, fits(a, b) && b.Num != 0, func() *big.Rat { return new(big.Rat).Quo(ratOf(a), ratOf(b)) })
			if got, want := impl.FracCmp(a, b), ratOf(a).Cmp(ratOf(b)); got != want {
				t.Errorf("FracCmp(%v, %v) = %d, want %d", a, b, got, want)
			}
		}
	}
}

// TestFracLaws checks the promise itself on fractions that are small enough for every result.
func TestFracLaws(t *testing.T) {
	var small []impl.Frac
	for _, a := range validFracs() {
		if a.Den <= 7 && max(a.Num, -a.Num) <= 7 {
			small = append(small, a)
		}
	}
	do := func(operation fracOperation, a, b impl.Frac) impl.Frac {
		got, ok := operation(a, b)
		if !ok || !impl.FracOk(got) {
			t.Fatalf("an operation on %v and %v gives %v, %v", a, b, got, ok)
		}
		return got
	}
	add, sub, mul, div := impl.FracAdd, impl.FracSub, impl.FracMul, impl.FracDiv
	zero, one := frac(0, 1), frac(1, 1)
	law := func(name string, left, right impl.Frac) {
		if left != right {
			t.Errorf("%s: %v is not %v", name, left, right)
		}
	}
	for _, a := range small {
		law("a + 0 = a", do(add, a, zero), a)
		law("a - a = 0", do(sub, a, a), zero)
		law("a * 1 = a", do(mul, a, one), a)
		law("a * 0 = 0", do(mul, a, zero), zero)
		for _, b := range small {
			law("a + b = b + a", do(add, a, b), do(add, b, a))
			law("a * b = b * a", do(mul, a, b), do(mul, b, a))
			law("a + b - b = a", do(sub, do(add, a, b), b), a)
			law("a - b = a + (0 - b)", do(sub, a, b), do(add, a, do(sub, zero, b)))
			if b != zero {
				law("a * b / b = a", do(div, do(mul, a, b), b), a)
				law("a / b = a * (1 / b)", do(div, a, b), do(mul, a, do(div, one, b)))
			}
			if impl.FracCmp(a, b) != -impl.FracCmp(b, a) || impl.FracCmp(a, b) != impl.FracCmp(do(sub, a, b), zero) {
				t.Errorf("%v and %v are compared as %d and %d", a, b, impl.FracCmp(a, b), impl.FracCmp(b, a))
			}
			for _, c := range small {
				law("(a + b) + c = a + (b + c)", do(add, do(add, a, b), c), do(add, a, do(add, b, c)))
				law("(a * b) * c = a * (b * c)", do(mul, do(mul, a, b), c), do(mul, a, do(mul, b, c)))
				law("a * (b + c) = a * b + a * c", do(mul, a, do(add, b, c)), do(add, do(mul, a, b), do(mul, a, c)))
			}
		}
	}
}
