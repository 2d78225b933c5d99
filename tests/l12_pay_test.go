package tests

import (
	"math"
	"math/big"
	"math/rand"
	"slices"
	"testing"

	"loop.example/g00980/impl"
)

// pay states that the monthly pay is value in the months from from to to-1.
func pay(from int, to int, known int, value int) impl.Fact { return fact(1, from, to, known, value) }

// knowns holds values of known of every kind, also those that are not a month.
func knowns() []int {
	return []int{0, 1, 2, 3, 7, 8, 9, 29, 30, impl.MaxMonth - 1, impl.MaxMonth, monthEnd, monthEnd + 1, -1, -2, 1 << 32, -1 << 32, math.MaxInt, math.MinInt}
}

func noLengths() []int {
	return []int{0, -1, -2, -60, 61, 62, 120, impl.MaxMonth, monthEnd, 1<<32 + 1, -1 << 32, math.MaxInt, math.MinInt}
}

// working is a store with months without pay before, between and after the facts about it, with pay
// of 0 and below 0, a correction that is known later, and facts of other keys.
func working() impl.Store {
	return storeOf(
		fact(2, 0, monthEnd, 0, 77),
		pay(10, 20, 2, 1000),
		pay(14, 16, 8, 1600),
		pay(24, 26, 8, 0),
		pay(26, 27, 8, -300),
		pay(40, 50, 9, 1200),
		fact(3, 45, 70, 9, 5),
		pay(42, 60, 30, 900),
	)
}

// raises holds so many facts about pay, in ascending months, each length months long and step months
// after the one before it.
func raises(count int, first int, length int, step int) impl.Store {
	var s impl.Store
	for i := range count {
		from := first + i*step
		s.Facts = append(s.Facts, pay(from, from+length, i/3, 1000+37*i%101-9*i%7))
	}
	return s
}

func payStores() []impl.Store {
	list := []impl.Store{
		{},
		storeOf(fact(2, 0, monthEnd, 0, 77), fact(50, 0, monthEnd, 0, 78)),
		storeOf(pay(0, 1, 0, 5)),
		storeOf(pay(impl.MaxMonth, monthEnd, impl.MaxMonth, 6)),
		storeOf(pay(0, monthEnd, 0, impl.MaxValue)),
		storeOf(pay(0, monthEnd, 3, -impl.MaxValue)),
		storeOf(pay(0, 1, 0, 5), pay(impl.MaxMonth, monthEnd, 0, 6)),
		storeOf(pay(30, 40, 1, 0)),
		// a fact about earlier months that is known later, and one inside the other
		storeOf(pay(50, 60, 1, 500), pay(10, 20, 2, 900)),
		storeOf(pay(0, 100, 1, 500), pay(0, 50, 2, 900)),
		storeOf(pay(0, 100, 1, 500), pay(60, 80, 2, 900)),
		storeOf(pay(60, 80, 1, 900), pay(0, 100, 2, 500), fact(2, 0, 200, 2, 1)),
		storeOf(pay(20, 80, 8, 7), pay(80, 81, 8, 7), pay(20, 80, 8, 8)),
		working(),
		raises(impl.MaxFacts, 0, 18, 18),
		raises(impl.MaxFacts, 3, 1, 17),
		raises(impl.MaxFacts, 100, 40, 2),
		raises(impl.MaxFacts-1, 5, 2, 3),
	}
	var nested impl.Store
	for i := range impl.MaxFacts {
		nested.Facts = append(nested.Facts, pay(i, 500-i, 0, i%13-4))
	}
	return append(list, nested)
}

// paidMonths is written apart from the program: it writes each fact over those before it, month by
// month.
func paidMonths(s impl.Store, known int) map[int]int {
	months := map[int]int{}
	for _, f := range s.Facts {
		for m := f.From; m < f.To && f.Key == 1 && known >= f.Known; m++ {
			months[m] = f.Value
		}
	}
	return months
}

func areMonthEnds(numbers ...int) bool {
	return slices.Min(numbers) >= 0 && slices.Max(numbers) <= 3600
}

func wantedFinal(s impl.Store, m int, known int) (int, bool) {
	if !storeValid(s) || !areMonthEnds(m) {
		return 0, false
	}
	months := paidMonths(s, known)
	for m > 0 {
		m--
		if value, ok := months[m]; ok {
			return value, true
		}
	}
	return 0, false
}

// meanOf returns the mean over the months from from to to-1 that are among months, or nil if none is.
func meanOf(months map[int]int, from int, to int) *big.Rat {
	var values []int
	for m := from; m <= to-1; m++ {
		if value, ok := months[m]; ok {
			values = append(values, value)
		}
	}
	if len(values) == 0 {
		return nil
	}
	return big.NewRat(int64(sumOf(values)), int64(len(values)))
}

func wantedAverage(s impl.Store, from int, to int, known int) (impl.Frac, bool) {
	if !storeValid(s) || !areMonthEnds(from, to) {
		return impl.Frac{}, false
	}
	mean := meanOf(paidMonths(s, known), from, to)
	if mean == nil {
		return impl.Frac{}, false
	}
	return validOf(mean)
}

// wantedBest goes through the ranges from the last one to the first, so that the first one of those
// that are equal remains.
func wantedBest(s impl.Store, from int, to int, length int, known int) (impl.Frac, int, bool) {
	if !storeValid(s) || !areMonthEnds(from, to) || length < 1 || length > 60 {
		return impl.Frac{}, 0, false
	}
	months := paidMonths(s, known)
	var best *big.Rat
	at := 0
	for end := to; end-length >= from; end-- {
		mean := meanOf(months, end-length, end)
		if mean != nil && (best == nil || mean.Cmp(best) >= 0) {
			best, at = mean, end-length
		}
	}
	if best == nil {
		return impl.Frac{}, 0, false
	}
	greatest, ok := validOf(best)
	return greatest, at, ok
}

func wantedRevalued(s impl.Store, x impl.Series, from int, to int, known int) int {
	if !storeValid(s) || !seriesValid(x) || !areMonthEnds(from, to) {
		return 0
	}
	months := paidMonths(s, known)
	last, lastOk := publishedIndex(x, to-1, known)
	sum := new(big.Int)
	for m := from; m <= to-1; m++ {
		index, ok := publishedIndex(x, m, known)
		if !ok || !lastOk || months[m] <= 0 {
			continue
		}
		part := big.NewInt(int64(months[m]))
		part.Mul(part, big.NewInt(int64(last)))
		sum.Add(sum, part.Quo(part, big.NewInt(int64(index))))
	}
	return int(sum.Int64())
}

func checkFinal(t *testing.T, name string, s impl.Store, m int, known int, want int, wantOk bool) {
	t.Helper()
	if got, ok := impl.FinalPay(s, m, known); got != want || ok != wantOk {
		t.Errorf("%s: FinalPay(%v, %d, %d) = %d, %v, want %d, %v", name, s, m, known, got, ok, want, wantOk)
	}
}

func checkAverage(t *testing.T, name string, s impl.Store, from int, to int, known int, want impl.Frac, wantOk bool) {
	t.Helper()
	if got, ok := impl.AveragePay(s, from, to, known); got != want || ok != wantOk {
		t.Errorf("%s: AveragePay(%v, %d, %d, %d) = %v, %v, want %v, %v", name, s, from, to, known, got, ok, want, wantOk)
	}
}

func checkBest(t *testing.T, name string, s impl.Store, from int, to int, length int, known int, want impl.Frac, wantAt int, wantOk bool) {
	t.Helper()
	if got, at, ok := impl.BestPay(s, from, to, length, known); got != want || at != wantAt || ok != wantOk {
		t.Errorf("%s: BestPay(%v, %d, %d, %d, %d) = %v, %d, %v, want %v, %d, %v", name, s, from, to, length, known, got, at, ok, want, wantAt, wantOk)
	}
}

func checkRevalued(t *testing.T, name string, s impl.Store, x impl.Series, from int, to int, known int, want int) {
	t.Helper()
	if got := impl.RevaluedPay(s, x, from, to, known); got != want {
		t.Errorf("%s: RevaluedPay(%v, %v, %d, %d, %d) = %d, want %d", name, s, x, from, to, known, got, want)
	}
}

// checkPays compares every function with the calculation apart from the program.
func checkPays(t *testing.T, name string, s impl.Store, x impl.Series, from int, to int, length int, known int) {
	t.Helper()
	final, finalOk := wantedFinal(s, to, known)
	checkFinal(t, name, s, to, known, final, finalOk)
	average, averageOk := wantedAverage(s, from, to, known)
	checkAverage(t, name, s, from, to, known, average, averageOk)
	best, at, bestOk := wantedBest(s, from, to, length, known)
	checkBest(t, name, s, from, to, length, known, best, at, bestOk)
	checkRevalued(t, name, s, x, from, to, known, wantedRevalued(s, x, from, to, known))
}

func TestKeyPay(t *testing.T) {
	if impl.KeyPay != 1 {
		t.Errorf("KeyPay = %d, want 1", impl.KeyPay)
	}
}

func TestFinalPay(t *testing.T) {
	all := storeOf(pay(0, monthEnd, 0, 44))
	ends := storeOf(pay(0, 1, 0, 5), pay(impl.MaxMonth, monthEnd, 0, 6))
	backwards := storeOf(pay(50, 60, 1, 500), pay(10, 20, 2, 900))
	shorter := storeOf(pay(0, 100, 1, 500), pay(0, 50, 2, 900))
	inside := storeOf(pay(0, 100, 1, 500), pay(60, 80, 2, 900))
	hidden := storeOf(pay(60, 80, 1, 900), pay(0, 100, 2, 500))
	others := storeOf(fact(2, 0, 100, 0, 7), pay(10, 20, 0, 3), fact(2, 20, 90, 0, 8), fact(50, 0, monthEnd, 0, 9))
	for _, c := range []struct {
		name     string
		s        impl.Store
		m, known int
		want     int
		ok       bool
	}{
		{"before month 0", working(), 0, 30, 0, false},
		{"before the first fact", working(), 9, 30, 0, false},
		{"at the first fact", working(), 10, 30, 0, false},
		{"after one month", working(), 11, 30, 1000, true},
		{"before a correction", working(), 14, 30, 1000, true},
		{"the first corrected month", working(), 15, 30, 1600, true},
		{"the last corrected month", working(), 16, 30, 1600, true},
		{"after a correction", working(), 17, 30, 1000, true},
		{"a correction that is not yet known", working(), 15, 7, 1000, true},
		{"a correction in the month in which it is known", working(), 15, 8, 1600, true},
		{"at the end of a fact", working(), 20, 30, 1000, true},
		{"after the end of a fact", working(), 21, 30, 1000, true},
		{"between two facts", working(), 24, 30, 1000, true},
		{"pay of 0", working(), 25, 30, 0, true},
		{"pay of 0 in the last of its months", working(), 26, 30, 0, true},
		{"pay below 0", working(), 27, 30, -300, true},
		{"long after pay below 0", working(), 40, 30, -300, true},
		{"pay of 0 that is not yet known", working(), 25, 7, 1000, true},
		{"the next job", working(), 41, 30, 1200, true},
		{"before the last correction", working(), 42, 30, 1200, true},
		{"the last correction", working(), 43, 30, 900, true},
		{"before the last correction is known", working(), 43, 29, 1200, true},
		{"longer by the last correction", working(), 60, 30, 900, true},
		{"not longer before it is known", working(), 60, 29, 1200, true},
		{"after the last fact", working(), 61, 30, 900, true},
		{"the last month", working(), impl.MaxMonth, 30, 900, true},
		{"after the last month", working(), monthEnd, 30, 900, true},
		{"known in the last month", working(), monthEnd, impl.MaxMonth, 900, true},
		{"known after the last month", working(), monthEnd, monthEnd, 900, true},
		{"known as late as can be", working(), monthEnd, math.MaxInt, 900, true},
		{"known since the first fact", working(), monthEnd, 2, 1000, true},
		{"known before the first fact", working(), monthEnd, 1, 0, false},
		{"known before every month", working(), monthEnd, -1, 0, false},
		{"known as early as can be", working(), monthEnd, math.MinInt, 0, false},
		{"all months, at 0", all, 0, 0, 0, false},
		{"all months, at 1", all, 1, 0, 44, true},
		{"all months, at the last one", all, impl.MaxMonth, 0, 44, true},
		{"all months, at the end", all, monthEnd, 0, 44, true},
		{"all months, known before", all, monthEnd, -1, 0, false},
		{"month 0 alone", ends, 1, 0, 5, true},
		{"before the last month", ends, impl.MaxMonth, 0, 5, true},
		{"the last month alone", ends, monthEnd, 0, 6, true},
		{"the last fact is about earlier months", backwards, 100, 2, 500, true},
		{"between its months and the others", backwards, 40, 2, 900, true},
		{"the last fact ends earlier", shorter, 200, 2, 500, true},
		{"in both facts", shorter, 50, 2, 900, true},
		{"after the shorter fact", shorter, 51, 2, 500, true},
		{"after a fact inside", inside, 200, 2, 500, true},
		{"in a fact inside", inside, 70, 2, 900, true},
		{"a fact replaced by a longer one", hidden, 80, 2, 500, true},
		{"before it is replaced", hidden, 80, 1, 900, true},
		{"other keys in later months", others, monthEnd, 0, 3, true},
		{"other keys in earlier months", others, 10, 0, 0, false},
		{"no fact of KeyPay", storeOf(fact(2, 0, 100, 0, 7)), 50, 0, 0, false},
		{"no fact", impl.Store{}, monthEnd, 0, 0, false},
	} {
		checkFinal(t, c.name, c.s, c.m, c.known, c.want, c.ok)
		if value, ok := wantedFinal(c.s, c.m, c.known); value != c.want || ok != c.ok {
			t.Errorf("%s: apart from the program the pay is %d, %v, want %d, %v", c.name, value, ok, c.want, c.ok)
		}
	}
}

func TestFinalPayEveryEnd(t *testing.T) {
	for _, s := range payStores() {
		count := len(s.Facts)
		for _, f := range slices.Concat(s.Facts[:min(20, count)], s.Facts[max(0, count-10):]) {
			for _, m := range []int{f.From - 1, f.From, f.From + 1, f.To - 1, f.To, f.To + 1} {
				for _, known := range []int{f.Known - 1, f.Known, math.MaxInt} {
					want, ok := wantedFinal(s, m, known)
					checkFinal(t, "beside the end of a fact", s, m, known, want, ok)
				}
			}
		}
	}
}

func TestFinalPayInvalid(t *testing.T) {
	for _, s := range payStores() {
		for _, m := range noMonthEnds() {
			for _, known := range knowns() {
				checkFinal(t, "no end of a range", s, m, known, 0, false)
			}
		}
	}
	for _, s := range invalidStores() {
		for _, m := range []int{0, 1, 5, 15, 25, 300, impl.MaxMonth, monthEnd, -1, monthEnd + 1} {
			for _, known := range []int{0, impl.MaxMonth, math.MaxInt, -1} {
				checkFinal(t, "not a valid store", s, m, known, 0, false)
			}
		}
	}
}

type averageCase struct {
	name            string
	s               impl.Store
	from, to, known int
	want            impl.Frac
	ok              bool
}

func checkAverages(t *testing.T, cases []averageCase) {
	t.Helper()
	for _, c := range cases {
		checkAverage(t, c.name, c.s, c.from, c.to, c.known, c.want, c.ok)
		if mean, ok := wantedAverage(c.s, c.from, c.to, c.known); mean != c.want || ok != c.ok {
			t.Errorf("%s: apart from the program the mean is %v, %v, want %v, %v", c.name, mean, ok, c.want, c.ok)
		}
	}
}

func TestAveragePay(t *testing.T) {
	ends := storeOf(pay(0, 1, 0, 5), pay(impl.MaxMonth, monthEnd, 0, 6))
	checkAverages(t, []averageCase{
		{"one month", working(), 10, 11, 30, frac(1000, 1), true},
		{"one corrected month", working(), 14, 15, 30, frac(1600, 1), true},
		{"one month before its correction is known", working(), 14, 15, 7, frac(1000, 1), true},
		{"two months", working(), 13, 15, 30, frac(1300, 1), true},
		{"three months", working(), 14, 17, 30, frac(1400, 1), true},
		{"a whole fact", working(), 10, 20, 30, frac(1120, 1), true},
		{"a whole fact before its correction is known", working(), 10, 20, 2, frac(1000, 1), true},
		{"a fraction", working(), 15, 18, 30, frac(1200, 1), true},
		{"a fraction with a denominator", working(), 13, 20, 30, frac(8200, 7), true},
		{"months without pay at the beginning", working(), 0, 11, 30, frac(1000, 1), true},
		{"months without pay at the end", working(), 19, 24, 30, frac(1000, 1), true},
		{"months without pay at both ends", working(), 5, 23, 30, frac(1120, 1), true},
		{"months without pay in the middle", working(), 19, 25, 30, frac(500, 1), true},
		{"only months without pay", working(), 20, 24, 30, impl.Frac{}, false},
		{"one month without pay", working(), 20, 21, 30, impl.Frac{}, false},
		{"before the first fact", working(), 0, 10, 30, impl.Frac{}, false},
		{"after the last fact", working(), 60, monthEnd, 30, impl.Frac{}, false},
		{"the last month of the last fact", working(), 59, 61, 30, frac(900, 1), true},
		{"not longer before it is known", working(), 50, 61, 29, impl.Frac{}, false},
		{"pay of 0", working(), 24, 26, 30, frac(0, 1), true},
		{"pay of 0 in one month", working(), 24, 25, 30, frac(0, 1), true},
		{"pay of 0 before it is known", working(), 24, 26, 7, impl.Frac{}, false},
		{"pay below 0", working(), 26, 27, 30, frac(-300, 1), true},
		{"pay of 0 and below 0", working(), 24, 27, 30, frac(-100, 1), true},
		{"pay above and below 0", working(), 19, 27, 30, frac(175, 1), true},
		{"all months", working(), 0, monthEnd, 30, frac(11200-300+2*1200+18*900, 33), true},
		{"the same month", working(), 12, 12, 30, impl.Frac{}, false},
		{"the same month, 0", working(), 0, 0, 30, impl.Frac{}, false},
		{"the same month, the end", storeOf(pay(0, monthEnd, 0, 4)), monthEnd, monthEnd, 0, impl.Frac{}, false},
		{"from above to", working(), 16, 12, 30, impl.Frac{}, false},
		{"from above to by one month", working(), 13, 12, 30, impl.Frac{}, false},
		{"from the end to 0", working(), monthEnd, 0, 30, impl.Frac{}, false},
		{"known in the last month", working(), 0, monthEnd, impl.MaxMonth, frac(29500, 33), true},
		{"known after the last month", working(), 0, monthEnd, monthEnd, frac(29500, 33), true},
		{"known as late as can be", working(), 0, monthEnd, math.MaxInt, frac(29500, 33), true},
		{"known before the first fact", working(), 0, monthEnd, 1, impl.Frac{}, false},
		{"known before every month", working(), 0, monthEnd, -1, impl.Frac{}, false},
		{"known as early as can be", working(), 0, monthEnd, math.MinInt, impl.Frac{}, false},
		{"month 0 and the last one", ends, 0, monthEnd, 0, frac(11, 2), true},
		{"month 0", ends, 0, impl.MaxMonth, 0, frac(5, 1), true},
		{"the last month", ends, 1, monthEnd, 0, frac(6, 1), true},
		{"the last month alone", ends, impl.MaxMonth, monthEnd, 0, frac(6, 1), true},
		{"between the two", ends, 1, impl.MaxMonth, 0, impl.Frac{}, false},
		{"no fact of KeyPay", storeOf(fact(2, 0, 100, 0, 7)), 0, monthEnd, 0, impl.Frac{}, false},
		{"no fact", impl.Store{}, 0, monthEnd, 0, impl.Frac{}, false},
	})
}

// TestAveragePayLimits has sums near the limit of a valid fraction. 10^12 and 1001 have no common
// divisor, but 10^12 - 1 is divisible by 1001.
func TestAveragePayLimits(t *testing.T) {
	const most = 1000000000
	long := func(months int, value int, last int) impl.Store {
		return storeOf(pay(0, months-1, 0, value), pay(months-1, months, 0, last))
	}
	checkAverages(t, []averageCase{
		{"the greatest pay in all months", storeOf(pay(0, monthEnd, 0, most)), 0, monthEnd, 0, frac(most, 1), true},
		{"the least pay in all months", storeOf(pay(0, monthEnd, 0, -most)), 0, monthEnd, 0, frac(-most, 1), true},
		{"one cent less in one month", long(monthEnd, most, most-1), 0, monthEnd, 0, impl.Frac{}, false},
		{"one cent more in one month", long(monthEnd, -most, 1-most), 0, monthEnd, 0, impl.Frac{}, false},
		{"3600 cents less", long(monthEnd, most, most-3600), 0, monthEnd, 0, frac(most-1, 1), true},
		{"the sum 10^12 in 1000 months", long(1000, most, most), 0, 1000, 0, frac(most, 1), true},
		{"the sum 10^12 in 1001 months", long(1001, most, 0), 0, 1001, 0, frac(1000000000000, 1001), true},
		{"the sum 10^12 + 1", long(1001, most, 1), 0, 1001, 0, impl.Frac{}, false},
		{"the sum 10^12 - 1", long(1001, most, -1), 0, 1001, 0, frac(999000999, 1), true},
		{"the sum 10^12 - 2", long(1001, most, -2), 0, 1001, 0, frac(999999999998, 1001), true},
		{"the sum -10^12", long(1001, -most, 0), 0, 1001, 0, frac(-1000000000000, 1001), true},
		{"the sum -10^12 - 1", long(1001, -most, -1), 0, 1001, 0, impl.Frac{}, false},
		{"the sum -10^12 + 1", long(1001, -most, 1), 0, 1001, 0, frac(-999000999, 1), true},
		{"the sum 2*10^12 in 2002 months", storeOf(pay(0, 2000, 0, most), pay(2000, 2002, 0, 0)), 0, monthEnd, 0, frac(1000000000000, 1001), true},
		{"the sum 2*10^12 + 1 in 2002 months", storeOf(pay(0, 2000, 0, most), pay(2000, 2001, 0, 0), pay(2001, 2002, 0, 1)), 0, monthEnd, 0, impl.Frac{}, false},
		{"the sum 2*10^12 + 2 in 2002 months", storeOf(pay(0, 2000, 0, most), pay(2000, 2002, 0, 1)), 0, monthEnd, 0, impl.Frac{}, false},
		{"a great denominator", storeOf(pay(0, 3599, 0, 1), pay(0, 1, 0, 0)), 0, monthEnd, 0, frac(3598, 3599), true},
		{"greater and lesser pay", storeOf(pay(0, 1800, 0, most), pay(1800, monthEnd, 0, -most)), 0, monthEnd, 0, frac(0, 1), true},
	})
}

func TestAveragePayInvalid(t *testing.T) {
	for _, s := range payStores() {
		for _, bad := range noMonthEnds() {
			for _, end := range []int{0, 1, 20, impl.MaxMonth, monthEnd, -1, monthEnd + 1, bad, bad + 1} {
				checkAverage(t, "no end of a range", s, bad, end, math.MaxInt, impl.Frac{}, false)
				checkAverage(t, "no end of a range", s, end, bad, math.MaxInt, impl.Frac{}, false)
			}
		}
	}
	for _, s := range invalidStores() {
		for _, ends := range [][2]int{{0, monthEnd}, {0, 1}, {0, 5}, {4, 15}, {15, 2500}, {15, 12}, {-1, monthEnd}, {0, monthEnd + 1}} {
			for _, known := range []int{impl.MaxMonth, math.MaxInt, -1} {
				checkAverage(t, "not a valid store", s, ends[0], ends[1], known, impl.Frac{}, false)
			}
		}
	}
}

func TestBestPay(t *testing.T) {
	ends := storeOf(pay(0, 1, 0, 5), pay(impl.MaxMonth, monthEnd, 0, 6))
	waves := storeOf(pay(0, 100, 0, 10), pay(20, 22, 0, 30), pay(50, 52, 0, 30), pay(80, 81, 0, 40), pay(90, 91, 0, 40))
	all := storeOf(pay(0, monthEnd, 0, 9))
	losses := storeOf(pay(10, 20, 0, -50), pay(20, 30, 0, -40), pay(30, 40, 0, -60))
	sparse := storeOf(pay(10, 11, 0, 30), pay(14, 15, 0, 20), pay(15, 16, 0, 40))
	for _, c := range []struct {
		name                    string
		s                       impl.Store
		from, to, length, known int
		want                    impl.Frac
		at                      int
		ok                      bool
	}{
		{"two months", working(), 0, 30, 2, 30, frac(1600, 1), 14, true},
		{"two months before the correction is known", working(), 0, 30, 2, 7, frac(1000, 1), 9, true},
		{"two months, from the first one with pay", working(), 10, 30, 2, 7, frac(1000, 1), 10, true},
		{"three months", working(), 0, 30, 3, 30, frac(1400, 1), 13, true},
		{"three months from the second corrected one", working(), 15, 30, 3, 30, frac(1200, 1), 15, true},
		{"one month", working(), 0, monthEnd, 1, 30, frac(1600, 1), 14, true},
		{"one month after the correction", working(), 16, monthEnd, 1, 30, frac(1200, 1), 40, true},
		{"one month in a range of one", working(), 26, 27, 1, 30, frac(-300, 1), 26, true},
		{"one month in a range of none", working(), 26, 26, 1, 30, impl.Frac{}, 0, false},
		{"one month without pay", working(), 20, 21, 1, 30, impl.Frac{}, 0, false},
		{"60 months", working(), 0, monthEnd, 60, 30, frac(930, 1), 27, true},
		{"60 months in all months", all, 0, monthEnd, 60, 0, frac(9, 1), 0, true},
		{"60 months in 60", all, 100, 160, 60, 0, frac(9, 1), 100, true},
		{"60 months in 59", all, 100, 159, 60, 0, impl.Frac{}, 0, false},
		{"60 months in the last 60", all, 3540, monthEnd, 60, 0, frac(9, 1), 3540, true},
		{"60 months in the last 59", all, 3541, monthEnd, 60, 0, impl.Frac{}, 0, false},
		{"the whole range", working(), 10, 20, 10, 30, frac(1120, 1), 10, true},
		{"one month less than the whole range", working(), 10, 20, 9, 30, frac(3400, 3), 10, true},
		{"one month more than the whole range", working(), 10, 20, 11, 30, impl.Frac{}, 0, false},
		{"several best ranges", waves, 0, 100, 2, 0, frac(30, 1), 20, true},
		{"several best ranges after the first one", waves, 21, 100, 2, 0, frac(30, 1), 50, true},
		{"several best ranges of one month", waves, 0, 100, 1, 0, frac(40, 1), 80, true},
		{"several best ranges that overlap", waves, 79, 92, 3, 0, frac(20, 1), 79, true},
		{"the last one of the ranges", waves, 53, 81, 2, 0, frac(25, 1), 79, true},
		{"ends before the best month", waves, 53, 80, 2, 0, frac(10, 1), 53, true},
		{"pay below 0", losses, 10, 40, 5, 0, frac(-40, 1), 20, true},
		{"pay below 0 without the best months", losses, 12, 20, 5, 0, frac(-50, 1), 12, true},
		{"pay below 0 and months without pay", losses, 0, monthEnd, 5, 0, frac(-40, 1), 20, true},
		{"pay of 0 is better than below 0", working(), 20, 40, 1, 30, frac(0, 1), 24, true},
		{"pay of 0 with months without pay before it", working(), 20, 40, 3, 30, frac(0, 1), 22, true},
		{"months without pay do not count", sparse, 0, 20, 3, 0, frac(40, 1), 15, true},
		{"the mean of one month is that of two months later on", sparse, 0, 16, 3, 0, frac(30, 1), 8, true},
		{"two months with pay", sparse, 11, 20, 2, 0, frac(40, 1), 15, true},
		{"only one month with pay at the end", sparse, 11, 16, 2, 0, frac(30, 1), 14, true},
		{"the first range without pay", sparse, 11, 14, 3, 0, impl.Frac{}, 0, false},
		{"no range with pay", working(), 60, monthEnd, 5, 30, impl.Frac{}, 0, false},
		{"no range with pay before the first fact", working(), 0, 10, 3, 30, impl.Frac{}, 0, false},
		{"from above to", working(), 20, 10, 2, 30, impl.Frac{}, 0, false},
		{"from the end to 0", working(), monthEnd, 0, 2, 30, impl.Frac{}, 0, false},
		{"from is to", working(), 12, 12, 2, 30, impl.Frac{}, 0, false},
		{"month 0 alone", ends, 0, 1, 1, 0, frac(5, 1), 0, true},
		{"month 0", ends, 0, impl.MaxMonth, 1, 0, frac(5, 1), 0, true},
		{"the last month", ends, 0, monthEnd, 1, 0, frac(6, 1), impl.MaxMonth, true},
		{"the last months", ends, 0, monthEnd, 12, 0, frac(6, 1), 3588, true},
		{"the last month alone", ends, impl.MaxMonth, monthEnd, 1, 0, frac(6, 1), impl.MaxMonth, true},
		{"a fraction", storeOf(pay(0, 2, 0, 1), pay(2, 3, 0, 2)), 0, 3, 3, 0, frac(4, 3), 0, true},
		{"known after the last month", working(), 0, 30, 2, monthEnd, frac(1600, 1), 14, true},
		{"known as late as can be", working(), 0, 30, 2, math.MaxInt, frac(1600, 1), 14, true},
		{"known before the first fact", working(), 0, 30, 2, 1, impl.Frac{}, 0, false},
		{"known as early as can be", working(), 0, 30, 2, math.MinInt, impl.Frac{}, 0, false},
		{"the greatest pay", storeOf(pay(0, monthEnd, 0, impl.MaxValue)), 0, monthEnd, 60, 0, frac(1000000000, 1), 0, true},
		{"the least pay", storeOf(pay(0, monthEnd, 0, -impl.MaxValue)), 0, monthEnd, 60, 0, frac(-1000000000, 1), 0, true},
		{"no fact of KeyPay", storeOf(fact(2, 0, 100, 0, 7)), 0, 100, 2, 0, impl.Frac{}, 0, false},
		{"no fact", impl.Store{}, 0, monthEnd, 1, 0, impl.Frac{}, 0, false},
	} {
		checkBest(t, c.name, c.s, c.from, c.to, c.length, c.known, c.want, c.at, c.ok)
		if best, at, ok := wantedBest(c.s, c.from, c.to, c.length, c.known); best != c.want || at != c.at || ok != c.ok {
			t.Errorf("%s: apart from the program the best is %v, %d, %v, want %v, %d, %v", c.name, best, at, ok, c.want, c.at, c.ok)
		}
	}
}

// TestBestPayEveryLength has pay in few of many months, so that ranges of any length are left out.
func TestBestPayEveryLength(t *testing.T) {
	for _, s := range payStores() {
		for length := 1; length <= 60; length++ {
			for _, ends := range [][2]int{{0, 120}, {9, 9 + length}, {10, 9 + length}, {10, 11 + length}, {3530, monthEnd}} {
				want, at, ok := wantedBest(s, ends[0], ends[1], length, 40)
				checkBest(t, "every length", s, ends[0], ends[1], length, 40, want, at, ok)
			}
		}
	}
}

func TestBestPayInvalid(t *testing.T) {
	for _, s := range payStores() {
		for _, length := range noLengths() {
			for _, ends := range [][2]int{{0, monthEnd}, {0, 0}, {10, 20}, {0, 61}, {20, 10}, {impl.MaxMonth, monthEnd}} {
				checkBest(t, "no length", s, ends[0], ends[1], length, math.MaxInt, impl.Frac{}, 0, false)
			}
		}
		for _, bad := range noMonthEnds() {
			for _, end := range []int{0, 1, 20, impl.MaxMonth, monthEnd, -1, monthEnd + 1, bad, bad + 1} {
				for _, length := range []int{1, 2, 60, 0, 61} {
					checkBest(t, "no end of a range", s, bad, end, length, math.MaxInt, impl.Frac{}, 0, false)
					checkBest(t, "no end of a range", s, end, bad, length, math.MaxInt, impl.Frac{}, 0, false)
				}
			}
		}
	}
	for _, s := range invalidStores() {
		for _, ends := range [][2]int{{0, monthEnd}, {0, 1}, {0, 5}, {4, 15}, {15, 12}, {-1, 20}, {0, monthEnd + 1}} {
			for _, length := range []int{1, 5, 60, 0} {
				checkBest(t, "not a valid store", s, ends[0], ends[1], length, math.MaxInt, impl.Frac{}, 0, false)
			}
		}
	}
}

// rising, falling and constant have a point in month 0 and every 3 months after it.
func rising() impl.Series {
	return seriesOf(point(0, 0, 10000), point(3, 3, 11000), point(6, 6, 12100), point(9, 9, 13310))
}

func falling() impl.Series {
	return seriesOf(point(0, 0, 10000), point(3, 3, 8000), point(6, 6, 6400), point(9, 9, 5120))
}

func constant() impl.Series {
	return seriesOf(point(0, 0, 10250), point(3, 3, 10250), point(6, 6, 10250), point(9, 9, 10250))
}

func TestRevaluedPay(t *testing.T) {
	steady := storeOf(pay(0, 12, 0, 1000))
	all := storeOf(pay(0, monthEnd, 0, impl.MaxValue))
	cents := storeOf(pay(0, 12, 0, 1))
	late := seriesOf(point(5, 5, 10000), point(8, 8, 20000))
	revised := seriesOf(point(0, 0, 10000), point(4, 4, 20000), point(4, 8, 15000), point(0, 9, 5000))
	halves := seriesOf(point(0, 0, 2), point(6, 6, 3))
	for _, c := range []struct {
		name            string
		s               impl.Store
		x               impl.Series
		from, to, known int
		want            int
	}{
		{"a constant index", steady, constant(), 0, 12, 20, 12000},
		{"a constant index in one point", steady, seriesOf(point(0, 0, 1)), 0, 12, 20, 12000},
		{"a constant index, some months", steady, constant(), 2, 7, 20, 5000},
		{"a constant index, a career", working(), constant(), 0, monthEnd, 30, 11200 + 2*1200 + 18*900},
		{"a rising index", steady, rising(), 0, 12, 20, 3*1331 + 3*1210 + 3*1100 + 3*1000},
		{"a rising index, to its first point", steady, rising(), 0, 3, 20, 3000},
		{"a rising index, to its second point", steady, rising(), 0, 4, 20, 3*1100 + 1000},
		{"a rising index, from its last point", steady, rising(), 9, 12, 20, 3000},
		{"a rising index, before its last point is known", steady, rising(), 0, 12, 8, 3*1210 + 3*1100 + 6*1000},
		{"a rising index, to a month after the pay", steady, rising(), 9, monthEnd, 20, 3000},
		{"a rising index, one month", steady, rising(), 4, 5, 20, 1000},
		{"a falling index", steady, falling(), 0, 12, 20, 3*512 + 3*640 + 3*800 + 3*1000},
		{"a falling index, some months", steady, falling(), 2, 7, 20, 640 + 3*800 + 1000},
		{"the example", storeOf(pay(0, 10, 0, 1000), pay(4, 6, 8, 1600)), seriesOf(point(0, 0, 10000), point(5, 5, 11000)), 3, 6, 9, 1100 + 1760 + 1600},
		{"months without an index", steady, late, 0, 12, 20, 3*2000 + 4*1000},
		{"months without an index, to the last one of them", steady, late, 0, 5, 20, 0},
		{"months without an index, and one with it", steady, late, 0, 6, 20, 1000},
		{"no index at the end", steady, late, 0, 4, 20, 0},
		{"no index is known", steady, late, 0, 12, 4, 0},
		{"only one index is known", steady, late, 0, 12, 5, 7000},
		{"an index before its revision", steady, revised, 0, 5, 7, 4*2000 + 1000},
		{"an index after its revision", steady, revised, 0, 5, 8, 4*1500 + 1000},
		{"an index after both revisions", steady, revised, 0, 5, 9, 4*3000 + 1000},
		{"rounded down month by month", cents, halves, 0, 12, 20, 6*1 + 6},
		{"rounded down month by month, some months", cents, halves, 4, 8, 20, 2*1 + 2},
		{"rounded down, other pay", storeOf(pay(0, 4, 0, 3), pay(4, 8, 0, 5)), halves, 0, 7, 20, 4*4 + 2*7 + 5},
		{"rounded down to 0", cents, seriesOf(point(0, 0, 3), point(6, 6, 2)), 0, 7, 20, 1},
		{"pay of 0 and below 0", working(), constant(), 20, 40, 30, 0},
		{"pay below 0 beside other pay", storeOf(pay(0, 5, 0, 100), pay(5, 8, 0, -100), pay(8, 9, 0, 0)), rising(), 0, 12, 20, 3*133 + 2*121},
		{"the least positive pay", storeOf(pay(0, 5, 0, 1)), constant(), 0, 12, 20, 5},
		{"months without pay", storeOf(pay(2, 4, 0, 100), pay(7, 8, 0, 200)), rising(), 0, 12, 20, 133 + 121 + 220},
		{"pay that is not yet known", working(), constant(), 0, monthEnd, 8, 11200},
		{"from is to", steady, rising(), 5, 5, 20, 0},
		{"from is to, 0", steady, rising(), 0, 0, 20, 0},
		{"from is to, the end", all, rising(), monthEnd, monthEnd, 20, 0},
		{"from above to", steady, rising(), 9, 3, 20, 0},
		{"from above to by one month", steady, rising(), 6, 5, 20, 0},
		{"from the end to 0", all, rising(), monthEnd, 0, 20, 0},
		{"month 0", steady, rising(), 0, 1, 20, 1000},
		{"the last month", all, rising(), impl.MaxMonth, monthEnd, 20, 1000000000},
		{"known after the last month", steady, rising(), 0, 12, monthEnd, 13923},
		{"known as late as can be", steady, rising(), 0, 12, math.MaxInt, 13923},
		{"known before every month", steady, rising(), 0, 12, -1, 0},
		{"known as early as can be", steady, rising(), 0, 12, math.MinInt, 0},
		{"the greatest sum", all, seriesOf(point(0, 0, 1), point(impl.MaxMonth, impl.MaxMonth, greatestIndex)), 0, monthEnd, impl.MaxMonth, 3599000001000000000},
		{"the greatest fall", all, seriesOf(point(0, 0, greatestIndex), point(impl.MaxMonth, impl.MaxMonth, 1)), 0, monthEnd, impl.MaxMonth, 3599*1000 + 1000000000},
		{"no index", steady, impl.Series{}, 0, 12, 20, 0},
		{"no fact of KeyPay", storeOf(fact(2, 0, 100, 0, 7)), rising(), 0, 12, 20, 0},
		{"no fact", impl.Store{}, rising(), 0, 12, 20, 0},
	} {
		checkRevalued(t, c.name, c.s, c.x, c.from, c.to, c.known, c.want)
		if want := wantedRevalued(c.s, c.x, c.from, c.to, c.known); want != c.want {
			t.Errorf("%s: apart from the program the sum is %d, want %d", c.name, want, c.want)
		}
	}
}

func TestRevaluedPayInvalid(t *testing.T) {
	for _, s := range payStores() {
		for _, bad := range noMonthEnds() {
			for _, end := range []int{0, 1, 20, impl.MaxMonth, monthEnd, -1, monthEnd + 1, bad, bad + 1} {
				checkRevalued(t, "no end of a range", s, constant(), bad, end, math.MaxInt, 0)
				checkRevalued(t, "no end of a range", s, constant(), end, bad, math.MaxInt, 0)
			}
		}
	}
	ranges := [][2]int{{0, monthEnd}, {0, 1}, {0, 5}, {15, 12}, {-1, 20}, {0, monthEnd + 1}}
	for _, ends := range ranges {
		for _, s := range invalidStores() {
			checkRevalued(t, "not a valid store", s, constant(), ends[0], ends[1], math.MaxInt, 0)
		}
		for _, x := range invalidSeries() {
			checkRevalued(t, "not a valid series", storeOf(pay(0, monthEnd, 0, 100)), x, ends[0], ends[1], math.MaxInt, 0)
		}
	}
	checkRevalued(t, "neither is valid", invalidStores()[0], invalidSeries()[0], 0, monthEnd, math.MaxInt, 0)
}

func TestPayEveryKnown(t *testing.T) {
	points := append(manyPoints(80), point(0, 3000, 9), point(3599, 3599, 12))
	for _, s := range payStores() {
		for _, known := range knowns() {
			for _, ends := range [][2]int{{0, 61}, {5, 47}, {3550, monthEnd}} {
				checkPays(t, "every known", s, seriesOf(points...), ends[0], ends[1], 3, known)
			}
		}
		checkPays(t, "all months", s, seriesOf(points...), 0, monthEnd, 60, 100)
	}
}

// randomPay has facts about pay with months close to one another, and some of another key.
func randomPay(random *rand.Rand, count int) impl.Store {
	var s impl.Store
	known := random.Intn(3)
	for range count {
		from := random.Intn(16)
		s.Facts = append(s.Facts, fact(1+random.Intn(5)/4, from, from+1+random.Intn(7), known, random.Intn(9)-2))
		known += random.Intn(3)
	}
	return s
}

func TestRandomPay(t *testing.T) {
	random := rand.New(rand.NewSource(12))
	for range 1500 {
		s, x := randomPay(random, random.Intn(9)), randomSeries(random, random.Intn(9))
		for range 12 {
			from, to := random.Intn(26), random.Intn(26)
			if random.Intn(8) > 0 {
				from, to = min(from, to), max(from, to)
			}
			length, known := 1+random.Intn(7), random.Intn(22)-1
			checkPays(t, "random pay", s, x, from, to, length, known)
			checkBetween(t, s, from, to, known)
			checkLastMonths(t, s, from, to, length, known)
			checkConstantIndex(t, s, from, to, known)
		}
	}
}

// paidIn returns the pay of the months from from to to-1 that have pay, in ascending order.
func paidIn(s impl.Store, from int, to int, known int) []int {
	var values []int
	for m := from; m < to; m++ {
		if value, ok := impl.ValueAt(s, impl.KeyPay, m, known); ok {
			values = append(values, value)
		}
	}
	slices.Sort(values)
	return values
}

// checkBetween checks the promise, and that the average is the pay if that is the same in all months.
// Only the sum of many months can have no valid fraction as its mean.
func checkBetween(t *testing.T, s impl.Store, from int, to int, known int) {
	t.Helper()
	mean, ok := impl.AveragePay(s, from, to, known)
	values := paidIn(s, from, to, known)
	if len(values) == 0 || !ok {
		if ok || len(values) > 0 && len(values) < 1000 {
			t.Errorf("AveragePay(%v, %d, %d, %d) = %v, %v, but the pay is %v", s, from, to, known, mean, ok, values)
		}
		return
	}
	least, greatest := ratOf(frac(values[0], 1)), ratOf(frac(values[len(values)-1], 1))
	if !impl.FracOk(mean) || ratOf(mean).Cmp(least) < 0 || ratOf(mean).Cmp(greatest) > 0 {
		t.Errorf("AveragePay(%v, %d, %d, %d) = %v, not between %v and %v", s, from, to, known, mean, least, greatest)
	}
	if values[0] == values[len(values)-1] && mean != frac(values[0], 1) {
		t.Errorf("AveragePay(%v, %d, %d, %d) = %v, but all pay is %d", s, from, to, known, mean, values[0])
	}
}

// checkLastMonths checks that the best pay is the average of its range, and at least that of the
// last months and of all others.
func checkLastMonths(t *testing.T, s impl.Store, from int, to int, length int, known int) {
	t.Helper()
	best, at, ok := impl.BestPay(s, from, to, length, known)
	if mean, meanOk := impl.AveragePay(s, at, at+length, known); ok && (!meanOk || mean != best || at < from || at+length > to) {
		t.Errorf("BestPay(%v, %d, %d, %d, %d) = %v, %d, but the average there is %v", s, from, to, length, known, best, at, mean)
	}
	for first := to - length; first >= from; first-- {
		mean, meanOk := impl.AveragePay(s, first, first+length, known)
		if !meanOk {
			continue
		}
		order := impl.FracCmp(best, mean)
		if !ok || order < 0 || order == 0 && first < at || order == 2 {
			t.Errorf("BestPay(%v, %d, %d, %d, %d) = %v, %d, %v, but from %d the average is %v", s, from, to, length, known, best, at, ok, first, mean)
		}
	}
}

// checkConstantIndex checks that pay is not changed by an index that is the same in all months.
func checkConstantIndex(t *testing.T, s impl.Store, from int, to int, known int) {
	t.Helper()
	sum := 0
	for _, value := range paidIn(s, from, to, known) {
		sum += max(value, 0)
	}
	x := seriesOf(point(0, 0, 1+sum%500))
	if got := impl.RevaluedPay(s, x, from, to, known); got != sum {
		t.Errorf("RevaluedPay(%v, %v, %d, %d, %d) = %d, but the sum of the pay is %d", s, x, from, to, known, got, sum)
	}
}

func TestPromiseOfNamedPay(t *testing.T) {
	for _, s := range payStores() {
		for _, ends := range [][2]int{{0, 60}, {9, 21}, {0, 500}, {3500, monthEnd}, {0, monthEnd}} {
			for _, known := range []int{0, 8, 30, math.MaxInt} {
				checkBetween(t, s, ends[0], ends[1], known)
				checkConstantIndex(t, s, ends[0], ends[1], known)
			}
		}
		checkLastMonths(t, s, 0, 70, 12, 30)
		checkLastMonths(t, s, 3520, monthEnd, 60, math.MaxInt)
	}
}

func TestPayLeavesItsArguments(t *testing.T) {
	stores := append(invalidStores()[:20], payStores()...)
	for _, s := range stores {
		for _, x := range []impl.Series{{}, rising(), falling(), seriesOf(manyPoints(impl.MaxFacts)...), invalidSeries()[0]} {
			given, index := withSpare(s), seriesWithSpare(x)
			for _, known := range []int{0, 9, math.MaxInt, -1} {
				impl.FinalPay(given, monthEnd, known)
				impl.AveragePay(given, 0, 100, known)
				impl.BestPay(given, 0, 100, 12, known)
				impl.RevaluedPay(given, index, 0, 100, known)
			}
			if !isWithSpare(given, s) || !isSeriesWithSpare(index, x) {
				t.Errorf("a function changes its arguments %v and %v", s, x)
			}
		}
	}
}
