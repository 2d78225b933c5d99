package tests

import (
	"math"
	"math/big"
	"slices"
	"testing"

	"loop.example/g00980/impl"
)

// The limits of the chapter's arguments; the document gives them no names.
const (
	maxTotal   = 1000000000
	maxWeights = 40
	maxWeight  = 1000000
)

// roundingModes is in the order of the wanted results of the tables below.
func roundingModes() []int {
	return []int{impl.RdDown, impl.RdUp, impl.RdHalfUp, impl.RdHalfEven}
}

func repeated(value int, count int) []int {
	list := make([]int, count)
	for i := range list {
		list[i] = value
	}
	return list
}

func sumOf(list []int) int {
	sum := 0
	for _, value := range list {
		sum += value
	}
	return sum
}

func TestRoundingModes(t *testing.T) {
	if got, want := roundingModes(), []int{1, 2, 3, 4}; !slices.Equal(got, want) {
		t.Errorf("modes are %v, want %v", got, want)
	}
}

func TestRoundFrac(t *testing.T) {
	const top = impl.MaxNum
	for _, c := range []struct {
		a    impl.Frac
		want [4]int
	}{
		// whole numbers
		{frac(0, 1), [4]int{0, 0, 0, 0}},
		{frac(1, 1), [4]int{1, 1, 1, 1}},
		{frac(-1, 1), [4]int{-1, -1, -1, -1}},
		{frac(4, 1), [4]int{4, 4, 4, 4}},
		{frac(-7, 1), [4]int{-7, -7, -7, -7}},
		{frac(top, 1), [4]int{top, top, top, top}},
		{frac(-top, 1), [4]int{-top, -top, -top, -top}},
		// halves
		{frac(1, 2), [4]int{0, 1, 1, 0}},
		{frac(3, 2), [4]int{1, 2, 2, 2}},
		{frac(5, 2), [4]int{2, 3, 3, 2}},
		{frac(7, 2), [4]int{3, 4, 4, 4}},
		{frac(-1, 2), [4]int{-1, 0, 0, 0}},
		{frac(-3, 2), [4]int{-2, -1, -1, -2}},
		{frac(-5, 2), [4]int{-3, -2, -2, -2}},
		{frac(-7, 2), [4]int{-4, -3, -3, -4}},
		{frac(top-1, 2), [4]int{top/2 - 1, top / 2, top / 2, top / 2}},
		{frac(top-3, 2), [4]int{top/2 - 2, top/2 - 1, top/2 - 1, top/2 - 2}},
		{frac(1-top, 2), [4]int{-top / 2, 1 - top/2, 1 - top/2, -top / 2}},
		{frac(3-top, 2), [4]int{1 - top/2, 2 - top/2, 2 - top/2, 2 - top/2}},
		// just below and just above a half
		{frac(499999, 1000000), [4]int{0, 1, 0, 0}},
		{frac(500001, 1000000), [4]int{0, 1, 1, 1}},
		{frac(1499999, 1000000), [4]int{1, 2, 1, 1}},
		{frac(1500001, 1000000), [4]int{1, 2, 2, 2}},
		{frac(2499999, 1000000), [4]int{2, 3, 2, 2}},
		{frac(2500001, 1000000), [4]int{2, 3, 3, 3}},
		{frac(-499999, 1000000), [4]int{-1, 0, 0, 0}},
		{frac(-500001, 1000000), [4]int{-1, 0, -1, -1}},
		{frac(-1499999, 1000000), [4]int{-2, -1, -1, -1}},
		{frac(-1500001, 1000000), [4]int{-2, -1, -2, -2}},
		{frac(-2499999, 1000000), [4]int{-3, -2, -2, -2}},
		{frac(-2500001, 1000000), [4]int{-3, -2, -3, -3}},
		{frac(499999, 999999), [4]int{0, 1, 0, 0}},
		{frac(500000, 999999), [4]int{0, 1, 1, 1}},
		{frac(-499999, 999999), [4]int{-1, 0, 0, 0}},
		{frac(-500000, 999999), [4]int{-1, 0, -1, -1}},
		// between whole numbers and halves
		{frac(1, 3), [4]int{0, 1, 0, 0}},
		{frac(2, 3), [4]int{0, 1, 1, 1}},
		{frac(-1, 3), [4]int{-1, 0, 0, 0}},
		{frac(-2, 3), [4]int{-1, 0, -1, -1}},
		{frac(1, 4), [4]int{0, 1, 0, 0}},
		{frac(3, 4), [4]int{0, 1, 1, 1}},
		{frac(-1, 4), [4]int{-1, 0, 0, 0}},
		{frac(-3, 4), [4]int{-1, 0, -1, -1}},
		{frac(1, impl.MaxDen), [4]int{0, 1, 0, 0}},
		{frac(-1, impl.MaxDen), [4]int{-1, 0, 0, 0}},
		{frac(999999, impl.MaxDen), [4]int{0, 1, 1, 1}},
		{frac(-999999, impl.MaxDen), [4]int{-1, 0, -1, -1}},
		{frac(top, 3), [4]int{333333333333, 333333333334, 333333333333, 333333333333}},
		{frac(-top, 3), [4]int{-333333333334, -333333333333, -333333333333, -333333333333}},
		{frac(top, 999999), [4]int{1000001, 1000002, 1000001, 1000001}},
		{frac(-top, 999999), [4]int{-1000002, -1000001, -1000001, -1000001}},
	} {
		for i, mode := range roundingModes() {
			if got, ok := impl.RoundFrac(c.a, mode); got != c.want[i] || !ok {
				t.Errorf("RoundFrac(%v, %d) = %d, %v, want %d, true", c.a, mode, got, ok, c.want[i])
			}
		}
		if got := impl.FloorFrac(c.a); got != c.want[0] {
			t.Errorf("FloorFrac(%v) = %d, want %d", c.a, got, c.want[0])
		}
	}
}

func TestRoundFracInvalid(t *testing.T) {
	for _, bad := range invalidFracs() {
		for _, mode := range append(roundingModes(), 0, 5) {
			if got, ok := impl.RoundFrac(bad, mode); got != 0 || ok {
				t.Errorf("RoundFrac(%v, %d) = %d, %v, want 0, false", bad, mode, got, ok)
			}
		}
		if got := impl.FloorFrac(bad); got != 0 {
			t.Errorf("FloorFrac(%v) = %d, want 0", bad, got)
		}
	}
	for _, a := range []impl.Frac{frac(0, 1), frac(5, 1), frac(7, 2), frac(-7, 2)} {
		for _, mode := range []int{0, 5, -1, -3, 6, 7, 8, 257, math.MaxInt, math.MinInt} {
			if got, ok := impl.RoundFrac(a, mode); got != 0 || ok {
				t.Errorf("RoundFrac(%v, %d) = %d, %v, want 0, false", a, mode, got, ok)
			}
		}
	}
}

// isRounded reports whether n is a rounded by mode, from the description of the modes alone.
func isRounded(a impl.Frac, mode int, n int) bool {
	distance := new(big.Rat).Sub(big.NewRat(int64(n), 1), ratOf(a))
	zero, one, half := new(big.Rat), big.NewRat(1, 1), big.NewRat(1, 2)
	switch mode {
	case impl.RdDown:
		return distance.Cmp(zero) <= 0 && new(big.Rat).Neg(distance).Cmp(one) < 0
	case impl.RdUp:
		return distance.Cmp(zero) >= 0 && distance.Cmp(one) < 0
	}
	switch nearness := new(big.Rat).Abs(distance).Cmp(half); {
	case nearness < 0:
		return true
	case nearness > 0:
		return false
	}
	if mode == impl.RdHalfUp {
		return distance.Sign() > 0
	}
	return n%2 == 0
}

// TestRoundFracExact tries every small fraction and those at the ends of the ranges, without a
// formula for the result.
func TestRoundFracExact(t *testing.T) {
	fracs := validFracs()
	for num := -60; num <= 60; num++ {
		for den := 1; den <= 12; den++ {
			if a := frac(num, den); impl.FracOk(a) {
				fracs = append(fracs, a)
			}
		}
	}
	for _, a := range fracs {
		for _, mode := range roundingModes() {
			if got, ok := impl.RoundFrac(a, mode); !ok || !isRounded(a, mode, got) {
				t.Errorf("RoundFrac(%v, %d) = %d, %v", a, mode, got, ok)
			}
		}
		if got := impl.FloorFrac(a); !isRounded(a, impl.RdDown, got) {
			t.Errorf("FloorFrac(%v) = %d", a, got)
		}
	}
}

func TestAllocate(t *testing.T) {
	for _, c := range []struct {
		total   int
		weights []int
		want    []int
	}{
		{10, []int{1, 1, 1}, []int{4, 3, 3}},
		{11, []int{1, 1, 1}, []int{4, 4, 3}},
		{12, []int{1, 1, 1}, []int{4, 4, 4}},
		{100, []int{50, 30, 20}, []int{50, 30, 20}},
		{7, []int{5}, []int{7}},
		{1, []int{1, 2}, []int{0, 1}},
		{1, []int{2, 1}, []int{1, 0}},
		{10, []int{1, 2, 3}, []int{2, 3, 5}},
		{10, []int{3, 2, 1}, []int{5, 3, 2}},
		// the greatest remainder is first, wherever it is
		{10, []int{6, 6, 7}, []int{3, 3, 4}},
		{10, []int{7, 6, 6}, []int{4, 3, 3}},
		{10, []int{6, 7, 6}, []int{3, 4, 3}},
		{5, []int{1, 4, 6, 2}, []int{0, 2, 2, 1}},
		{100, []int{1, 1, 5}, []int{14, 14, 72}},
		// not the greatest quotient, nor the greatest weight
		{10, []int{9, 1, 1, 1}, []int{7, 1, 1, 1}},
		{10, []int{1, 1, 1, 9}, []int{1, 1, 1, 7}},
		// equal remainders
		{1, []int{1, 1}, []int{1, 0}},
		{3, []int{1, 1}, []int{2, 1}},
		{2, []int{1, 1, 1}, []int{1, 1, 0}},
		{1, []int{0, 1, 0, 1}, []int{0, 1, 0, 0}},
		{5, []int{1, 3, 1, 3}, []int{1, 2, 0, 2}},
		{4, []int{1, 3, 1, 3}, []int{1, 2, 0, 1}},
		{3, []int{2, 2, 2, 2}, []int{1, 1, 1, 0}},
		// weights of 0
		{10, []int{0, 1}, []int{0, 10}},
		{10, []int{1, 0}, []int{10, 0}},
		{10, []int{0, 1, 0, 1, 1, 0}, []int{0, 4, 0, 3, 3, 0}},
		{10, []int{0, 0, maxWeight}, []int{0, 0, 10}},
		// a total of 0 and of maxTotal
		{0, []int{1}, []int{0}},
		{0, []int{1, 2, 3}, []int{0, 0, 0}},
		{1, []int{1}, []int{1}},
		{maxTotal, []int{1}, []int{maxTotal}},
		{maxTotal, []int{maxWeight}, []int{maxTotal}},
		{maxTotal, []int{1, 1, 1}, []int{333333334, 333333333, 333333333}},
		{maxTotal, []int{maxWeight, 1}, []int{999999000, 1000}},
		{maxTotal, []int{1, maxWeight}, []int{1000, 999999000}},
		{maxTotal - 1, []int{maxWeight, maxWeight}, []int{500000000, 499999999}},
		{1, []int{maxWeight - 1, maxWeight}, []int{0, 1}},
	} {
		if got := impl.Allocate(c.total, c.weights); !slices.Equal(got, c.want) {
			t.Errorf("Allocate(%d, %v) = %v, want %v", c.total, c.weights, got, c.want)
		}
	}
}

// TestAllocateManyWeights is long enough for a sort that is not stable to change the order.
func TestAllocateManyWeights(t *testing.T) {
	for _, weight := range []int{1, 7, maxWeight} {
		for _, total := range []int{0, 1, 17, 39, 40, 41, 79, maxTotal - 1, maxTotal} {
			want := repeated(total/maxWeights, maxWeights)
			for i := range total % maxWeights {
				want[i]++
			}
			if got := impl.Allocate(total, repeated(weight, maxWeights)); !slices.Equal(got, want) {
				t.Errorf("Allocate(%d, 40 of %d) = %v, want %v", total, weight, got, want)
			}
		}
	}
}

func TestAllocateInvalid(t *testing.T) {
	for _, c := range []struct {
		total   int
		weights []int
	}{
		{-1, []int{1, 2}},
		{maxTotal + 1, []int{1, 2}},
		{math.MinInt, []int{1, 2}},
		{math.MaxInt, []int{1, 2}},
		{10, nil},
		{10, []int{}},
		{0, nil},
		{10, repeated(1, maxWeights+1)},
		{0, repeated(1, maxWeights+1)},
		{10, repeated(1, 1000)},
		{10, []int{-1}},
		{10, []int{-1, 5}},
		{10, []int{5, -1}},
		{10, []int{2, -1, 2}},
		{0, []int{1, -1}},
		{10, []int{maxWeight + 1}},
		{10, []int{maxWeight + 1, 1}},
		{10, []int{1, maxWeight + 1}},
		{0, []int{1, maxWeight + 1}},
		{10, []int{1, math.MaxInt}},
		{10, []int{1, math.MinInt}},
		{10, []int{math.MaxInt, math.MaxInt, 3}},
		{10, []int{math.MinInt, math.MinInt}},
		{10, []int{0}},
		{10, []int{0, 0, 0}},
		{0, []int{0}},
		{0, repeated(0, maxWeights)},
		{-1, []int{0}},
		{maxTotal + 1, nil},
	} {
		if got := impl.Allocate(c.total, c.weights); len(got) != 0 {
			t.Errorf("Allocate(%d, %v) = %v, want nil", c.total, c.weights, got)
		}
	}
}

// shares works the parts out one increase at a time, as the document tells it.
func shares(total int, weights []int) []int {
	product := func(i int) *big.Int {
		return new(big.Int).Mul(big.NewInt(int64(total)), big.NewInt(int64(weights[i])))
	}
	sum := big.NewInt(int64(sumOf(weights)))
	parts, remainders := make([]int, len(weights)), make([]int, len(weights))
	for i := range weights {
		quotient, remainder := new(big.Int).DivMod(product(i), sum, new(big.Int))
		parts[i], remainders[i] = int(quotient.Int64()), int(remainder.Int64())
	}
	for sumOf(parts) < total {
		greatest := 0
		for i := range remainders {
			if remainders[i] > remainders[greatest] {
				greatest = i
			}
		}
		parts[greatest]++
		remainders[greatest] = -1
	}
	return parts
}

// TestAllocateSums checks the promise, and every part against shares.
func TestAllocateSums(t *testing.T) {
	lists := [][]int{
		{1}, {maxWeight}, {1, 1}, {1, 2}, {3, 3, 1}, {0, 0, 5, 0, 5}, {1, maxWeight}, {1, 1, maxWeight, maxWeight},
		{2, 3, 5, 7, 11, 13, 17, 19, 23, 29}, {999983, 999979, 1, 0, 65537, 3}, {maxWeight, maxWeight - 1, maxWeight - 2},
		repeated(1, maxWeights), repeated(maxWeight, maxWeights), repeated(999983, maxWeights-1),
	}
	rising, mixed := make([]int, maxWeights), make([]int, maxWeights)
	for i := range maxWeights {
		rising[i] = i * i
		mixed[i] = i * 7919 % 13
	}
	lists = append(lists, rising, mixed)
	for _, weights := range lists {
		for _, total := range []int{0, 1, 2, 3, 5, 10, 39, 40, 41, 99, 100, 1000, 65537, 999999937, maxTotal - 1, maxTotal} {
			got := impl.Allocate(total, weights)
			if len(got) != len(weights) || sumOf(got) != total {
				t.Errorf("Allocate(%d, %v) = %v with the sum %d", total, weights, got, sumOf(got))
			}
			if want := shares(total, weights); !slices.Equal(got, want) {
				t.Errorf("Allocate(%d, %v) = %v, want %v", total, weights, got, want)
			}
		}
	}
}

func TestAllocateLeavesWeights(t *testing.T) {
	backing := []int{5, 1, 3, 77, 78}
	weights := backing[:3]
	got := impl.Allocate(10, weights)
	if want := []int{5, 1, 3, 77, 78}; !slices.Equal(backing, want) {
		t.Errorf("the weights became %v, want %v", backing, want)
	}
	got[0], got[1], got[2] = -1, -1, -1
	if want := []int{5, 1, 3}; !slices.Equal(weights, want) {
		t.Errorf("the result shares memory with the weights: %v", weights)
	}
	if got, want := impl.Allocate(10, weights), []int{6, 1, 3}; !slices.Equal(got, want) {
		t.Errorf("the second call returns %v, want %v", got, want)
	}
}

func TestSpreadYear(t *testing.T) {
	for _, c := range []struct {
		total, months int
		want          []int
	}{
		{10, 4, []int{2, 3, 2, 3}},
		{12, 4, []int{3, 3, 3, 3}},
		{1200, 12, repeated(100, 12)},
		{100, 12, []int{8, 8, 9, 8, 8, 9, 8, 8, 9, 8, 8, 9}},
		{1, 12, []int{0, 0, 0, 0, 0, 0, 0, 0, 0, 0, 0, 1}},
		{11, 12, []int{0, 1, 1, 1, 1, 1, 1, 1, 1, 1, 1, 1}},
		{5, 12, []int{0, 0, 1, 0, 1, 0, 0, 1, 0, 1, 0, 1}},
		{7, 1, []int{7}},
		{7, 2, []int{3, 4}},
		{8, 3, []int{2, 3, 3}},
		{20, 7, []int{2, 3, 3, 3, 3, 3, 3}},
		{0, 1, []int{0}},
		{0, 12, repeated(0, 12)},
		{maxTotal, 1, []int{maxTotal}},
		{maxTotal, 3, []int{333333333, 333333333, 333333334}},
		{maxTotal, 12, []int{83333333, 83333333, 83333334, 83333333, 83333333, 83333334, 83333333, 83333333, 83333334, 83333333, 83333333, 83333334}},
		{maxTotal - 1, 2, []int{499999999, 500000000}},
	} {
		if got := impl.SpreadYear(c.total, c.months); !slices.Equal(got, c.want) {
			t.Errorf("SpreadYear(%d, %d) = %v, want %v", c.total, c.months, got, c.want)
		}
	}
}

func TestSpreadYearSums(t *testing.T) {
	totals := []int{999999937, maxTotal - 1, maxTotal}
	for total := range 150 {
		totals = append(totals, total)
	}
	for _, total := range totals {
		for months := 1; months <= 12; months++ {
			got := impl.SpreadYear(total, months)
			if len(got) != months || sumOf(got) != total || slices.Max(got)-slices.Min(got) > 1 {
				t.Errorf("SpreadYear(%d, %d) = %v", total, months, got)
			}
			for k := 1; k <= len(got); k++ {
				if want := k*total/months - (k-1)*total/months; got[k-1] != want {
					t.Errorf("SpreadYear(%d, %d) has %d at index %d, want %d", total, months, got[k-1], k-1, want)
				}
			}
		}
	}
}

func TestSpreadYearInvalid(t *testing.T) {
	for _, c := range []struct{ total, months int }{
		{-1, 12}, {-1, 1}, {maxTotal + 1, 12}, {maxTotal + 1, 1}, {math.MinInt, 12}, {math.MaxInt, 12},
		{10, 0}, {0, 0}, {10, -1}, {0, -1}, {10, 13}, {0, 13}, {26, 13}, {10, math.MaxInt}, {10, math.MinInt},
		{-1, 0}, {maxTotal + 1, 13}, {math.MinInt, math.MinInt},
	} {
		if got := impl.SpreadYear(c.total, c.months); len(got) != 0 {
			t.Errorf("SpreadYear(%d, %d) = %v, want nil", c.total, c.months, got)
		}
	}
}
