package tests

import (
	"math"
	"math/big"
	"math/rand"
	"slices"
	"testing"

	"loop.example/g00980/impl"
)

// mostService and mostPrice are written as numbers here, so that a change of the limits does not
// change the tests.
const (
	mostService = 72000
	mostPrice   = 100000
)

func design(kind int, rate int, years int) impl.Design {
	return impl.Design{Kind: kind, Rate: rate, Cap: years}
}

func serviceKinds() []int { return []int{impl.DsFinal, impl.DsAverage} }

func noDesignKinds() []int {
	return []int{0, 5, 6, -1, -2, -3, -4, 1 << 8, 1<<8 + 1, 1<<32 + 1, 1<<32 + 4, -1 << 32, math.MaxInt, math.MinInt}
}

func designRates() []int { return []int{1, 2, 3, 16, 101, 150, 500, 625, 999, 1000} }

func noDesignRates() []int {
	return []int{0, -1, -2, -150, -1000, 1001, 1002, 2000, 10000, 1<<16 + 5, 1<<32 + 1, -1 << 32, math.MaxInt, math.MinInt}
}

func capsOf(kind int) []int {
	if slices.Contains(serviceKinds(), kind) {
		return []int{1, 2, 3, 40, 59, 60}
	}
	return []int{0}
}

func noCapsOf(kind int) []int {
	list := []int{-1, -2, -40, -60, 61, 62, 100, 720, 1200, 1<<8 + 1, 1<<32 + 1, -1 << 32, math.MaxInt, math.MinInt}
	if slices.Contains(serviceKinds(), kind) {
		return append(list, 0)
	}
	return append(list, 1, 2, 40, 59, 60)
}

// designsOf holds valid designs of the kinds.
func designsOf(kinds ...int) []impl.Design {
	var list []impl.Design
	for _, kind := range kinds {
		for _, rate := range designRates() {
			for _, years := range capsOf(kind) {
				list = append(list, design(kind, rate, years))
			}
		}
	}
	return list
}

// invalidDesigns are all invalid for one reason alone, except those of no kind.
func invalidDesigns() []impl.Design {
	list := []impl.Design{{}}
	for kind := impl.DsFinal; kind <= impl.DsAccount; kind++ {
		for _, rate := range noDesignRates() {
			list = append(list, design(kind, rate, capsOf(kind)[0]))
		}
		for _, years := range noCapsOf(kind) {
			list = append(list, design(kind, 150, years))
		}
	}
	for _, kind := range noDesignKinds() {
		list = append(list, design(kind, 150, 0), design(kind, 150, 40))
	}
	return list
}

// noDesignsFor holds the designs that a function for these kinds rejects.
func noDesignsFor(kinds ...int) []impl.Design {
	list := invalidDesigns()
	for kind := impl.DsFinal; kind <= impl.DsAccount; kind++ {
		if !slices.Contains(kinds, kind) {
			list = append(list, designsOf(kind)...)
		}
	}
	return list
}

func services() []int {
	return []int{0, 1, 2, 75, 100, 600, 1199, 1200, 1201, 12000, 47999, 48000, 48001, 70799, 70800, 70801, mostService - 1, mostService}
}

func noServices() []int {
	return []int{-1, -2, -1200, -mostService, mostService + 1, mostService + 2, 2 * mostService, 1<<16 + mostService, 1 << 32, 1<<32 + 1200, -1 << 32, math.MaxInt, math.MinInt}
}

func noCents() []int {
	return []int{-1, -2, -1000, -impl.MaxValue, impl.MaxValue + 1, impl.MaxValue + 2, 2 * impl.MaxValue, 1 << 32, 1<<32 + 1000, -1 << 32, math.MaxInt, math.MinInt}
}

func noPrices() []int {
	return []int{0, -1, -2, -100, -mostPrice, mostPrice + 1, mostPrice + 2, 2 * mostPrice, 1000000, 1<<16 + mostPrice, 1<<32 + 1, -1 << 32, math.MaxInt, math.MinInt}
}

// earnings holds interests that were earned, at the ends of their range and on both sides of every
// rate of designRates.
func earnings() []int {
	list := []int{-10000, -9999, -5000, -1, 0, 4, 5, 6, 5000, 9999, 10000}
	for _, rate := range designRates() {
		list = append(list, rate-1, rate, rate+1, -rate)
	}
	return list
}

func noEarnings() []int {
	return []int{-10001, -10002, -20000, 10001, 10002, 20000, 1<<16 + 100, 1<<32 + 100, -1 << 32, math.MaxInt, math.MinInt}
}

// fracAmounts holds fractions for which, with some design, each of the products is and is not valid.
func fracAmounts() []impl.Frac {
	return slices.Concat(validFracs(), invalidFracs(), []impl.Frac{
		frac(1000, 1), frac(300000, 1), frac(999999, 1), frac(1001, 1), frac(9901, 1), frac(1000, 3), frac(1000000, 7), frac(10000, 999983),
		frac(1, 100), frac(1, 101), frac(1, 6250), frac(1, 6251), frac(1, 100000), frac(1, 100001), frac(3, 400), frac(7, 625), frac(10, 999983),
	})
}

func designValid(d impl.Design) bool {
	if d.Rate <= 0 || d.Rate > 1000 {
		return false
	}
	switch d.Kind {
	case 1, 2:
		return d.Cap > 0 && d.Cap < 61
	case 3, 4:
		return d.Cap == 0
	}
	return false
}

// isAmount reports whether a is a valid fraction that is not negative.
func isAmount(a impl.Frac) bool { return a.Den > 0 && a.Num >= 0 && isLowest(a) }

// exactProduct multiplies a valid amount, which can be too large for a factor, by one that is not.
func exactProduct(a impl.Frac, b *big.Rat) (impl.Frac, bool) {
	if a.Num > maxFactor {
		return impl.Frac{}, false
	}
	return validOf(new(big.Rat).Mul(ratOf(a), b))
}

// wantedAccrued is written apart from the program, with exact arithmetic.
func wantedAccrued(d impl.Design, service int, pay impl.Frac) (impl.Frac, bool) {
	if !designValid(d) || d.Kind > 2 || service < 0 || service > 72000 || !isAmount(pay) {
		return impl.Frac{}, false
	}
	years := big.NewRat(int64(service), 1200)
	if most := new(big.Rat).SetInt64(int64(d.Cap)); years.Cmp(most) > 0 {
		years = most
	}
	yearly, ok := exactProduct(pay, big.NewRat(int64(d.Rate), 10000))
	if !ok {
		return impl.Frac{}, false
	}
	return exactProduct(yearly, years)
}

func wantedUnits(cents int, price int) impl.Frac {
	if cents < 0 || cents > 1000000000 || price < 1 || price > 100000 {
		return impl.Frac{}
	}
	units, _ := validOf(big.NewRat(int64(cents), int64(price)))
	return units
}

func wantedUnitPension(d impl.Design, units impl.Frac) (int, bool) {
	if !designValid(d) || d.Kind != 3 || !isAmount(units) {
		return 0, false
	}
	product, ok := exactProduct(units, new(big.Rat).SetInt64(int64(d.Rate)))
	if !ok {
		return 0, false
	}
	return product.Num / product.Den, true
}

func wantedGrowth(d impl.Design, balance int, credit int, earned int) int {
	if !designValid(d) || d.Kind != 4 || balance < 0 || balance > 1000000000 || credit < 0 || credit > 1000000000 || earned < -10000 || earned > 10000 {
		return 0
	}
	rate := d.Rate
	if earned > rate {
		rate = earned
	}
	grown := new(big.Int).Mul(big.NewInt(int64(balance)), big.NewInt(int64(10000+rate)))
	grown.Div(grown, big.NewInt(10000))
	return int(grown.Int64()) + credit
}

func checkAccrued(t *testing.T, d impl.Design, service int, pay impl.Frac) {
	t.Helper()
	want, wantOk := wantedAccrued(d, service, pay)
	if got, ok := impl.Accrued(d, service, pay); got != want || ok != wantOk {
		t.Errorf("Accrued(%v, %d, %v) = %v, %v, want %v, %v", d, service, pay, got, ok, want, wantOk)
	}
}

func checkUnitPension(t *testing.T, d impl.Design, units impl.Frac) {
	t.Helper()
	want, wantOk := wantedUnitPension(d, units)
	if got, ok := impl.UnitPension(d, units); got != want || ok != wantOk {
		t.Errorf("UnitPension(%v, %v) = %d, %v, want %d, %v", d, units, got, ok, want, wantOk)
	}
}

func checkGrowth(t *testing.T, d impl.Design, balance int, credit int, earned int) {
	t.Helper()
	want := wantedGrowth(d, balance, credit, earned)
	if got := impl.GrowAccount(d, balance, credit, earned); got != want {
		t.Errorf("GrowAccount(%v, %d, %d, %d) = %d, want %d", d, balance, credit, earned, got, want)
	}
}

func TestDesignConstants(t *testing.T) {
	got := []int{impl.DsFinal, impl.DsAverage, impl.DsUnits, impl.DsAccount}
	if want := []int{1, 2, 3, 4}; !slices.Equal(got, want) {
		t.Errorf("the kinds are %v, want %v", got, want)
	}
}

func TestDesignOk(t *testing.T) {
	for _, kind := range []int{1, 2, 3, 4} {
		usesCap := kind < 3
		for _, c := range []struct {
			rate, years int
			want        bool
		}{
			{1, 1, usesCap}, {1000, 1, usesCap}, {1, 60, usesCap}, {1000, 60, usesCap}, {150, 40, usesCap},
			{1, 0, !usesCap}, {1000, 0, !usesCap}, {150, 0, !usesCap},
			{0, 0, false}, {0, 1, false}, {0, 60, false}, {1001, 0, false}, {1001, 1, false}, {1001, 60, false},
			{-1, 0, false}, {-1, 1, false}, {1, 61, false}, {1000, 61, false}, {1, -1, false}, {1000, -1, false},
			{0, 61, false}, {1001, -1, false},
		} {
			if got := impl.DesignOk(design(kind, c.rate, c.years)); got != c.want {
				t.Errorf("DesignOk(kind %d, rate %d, cap %d) = %v", kind, c.rate, c.years, got)
			}
		}
	}
	for _, d := range designsOf(1, 2, 3, 4) {
		if !impl.DesignOk(d) {
			t.Errorf("DesignOk(%v) = false", d)
		}
	}
	for _, d := range invalidDesigns() {
		if impl.DesignOk(d) {
			t.Errorf("DesignOk(%v) = true", d)
		}
	}
}

// TestDesignOkEveryNumber tries all small numbers, and the ends of an int, in every place.
func TestDesignOkEveryNumber(t *testing.T) {
	var kinds, rates, caps []int
	for n := -3; n <= 1003; n++ {
		rates = append(rates, n)
		if n < 8 {
			kinds = append(kinds, n)
		}
		if n < 65 {
			caps = append(caps, n)
		}
	}
	for _, kind := range append(kinds, noDesignKinds()...) {
		for _, rate := range append(rates, noDesignRates()...) {
			for _, years := range append(caps, noCapsOf(impl.DsFinal)...) {
				d := design(kind, rate, years)
				if got := impl.DesignOk(d); got != designValid(d) {
					t.Errorf("DesignOk(%v) = %v", d, got)
				}
			}
		}
	}
}

type accruedCase struct {
	rate, years, service int
	pay, want            impl.Frac
	ok                   bool
}

func checkAccruedCases(t *testing.T, cases []accruedCase) {
	t.Helper()
	for _, kind := range serviceKinds() {
		for _, c := range cases {
			d := design(kind, c.rate, c.years)
			if got, ok := impl.Accrued(d, c.service, c.pay); got != c.want || ok != c.ok {
				t.Errorf("Accrued(%v, %d, %v) = %v, %v, want %v, %v", d, c.service, c.pay, got, ok, c.want, c.ok)
			}
			checkAccrued(t, d, c.service, c.pay)
		}
	}
}

func TestAccrued(t *testing.T) {
	pay, none := frac(1000, 1), impl.Frac{}
	checkAccruedCases(t, []accruedCase{
		{150, 40, 12000, pay, frac(150, 1), true},
		{150, 40, 0, pay, frac(0, 1), true},
		{150, 40, 1, pay, frac(1, 80), true},
		{150, 40, 100, pay, frac(5, 4), true},
		{150, 40, 1199, pay, frac(1199, 80), true},
		{150, 40, 1200, pay, frac(15, 1), true},
		{150, 40, 1201, pay, frac(1201, 80), true},
		// service above the cap adds nothing
		{150, 40, 47999, pay, frac(47999, 80), true},
		{150, 40, 48000, pay, frac(600, 1), true},
		{150, 40, 48001, pay, frac(600, 1), true},
		{150, 40, 49200, pay, frac(600, 1), true},
		{150, 40, mostService, pay, frac(600, 1), true},
		{150, 40, mostService + 1, pay, none, false},
		{150, 40, -1, pay, none, false},
		{150, 1, 0, pay, frac(0, 1), true},
		{150, 1, 1, pay, frac(1, 80), true},
		{150, 1, 1199, pay, frac(1199, 80), true},
		{150, 1, 1200, pay, frac(15, 1), true},
		{150, 1, 1201, pay, frac(15, 1), true},
		{150, 1, mostService, pay, frac(15, 1), true},
		{150, 60, mostService - 1, pay, frac(71999, 80), true},
		{150, 60, mostService, pay, frac(900, 1), true},
		{150, 60, mostService + 1, pay, none, false},
		{150, 59, mostService, pay, frac(885, 1), true},
		// a cap or a rate that is not valid
		{150, 0, 0, pay, none, false},
		{150, 0, 1200, pay, none, false},
		{150, 61, 1200, pay, none, false},
		{150, -1, 1200, pay, none, false},
		{0, 40, 1200, pay, none, false},
		{1001, 40, 1200, pay, none, false},
		{1, 40, 1200, pay, frac(1, 10), true},
		{1000, 40, 1200, pay, frac(100, 1), true},
	})
}

func TestAccruedPay(t *testing.T) {
	none := impl.Frac{}
	checkAccruedCases(t, []accruedCase{
		{150, 40, 12000, frac(0, 1), frac(0, 1), true},
		{150, 40, 0, frac(0, 1), frac(0, 1), true},
		{150, 40, 12000, frac(1, 3), frac(1, 20), true},
		{200, 40, 600, frac(2500, 7), frac(25, 7), true},
		// invalid and negative pay
		{150, 40, 12000, frac(-1, 1), none, false},
		{150, 40, 0, frac(-1, 1), none, false},
		{150, 40, 12000, frac(-1, impl.MaxDen), none, false},
		{150, 40, 12000, frac(-impl.MaxNum, 1), none, false},
		{150, 40, 12000, frac(2000, 2), none, false},
		{150, 40, 12000, frac(-1000, -1), none, false},
		{150, 40, 12000, frac(1000, -1), none, false},
		{150, 40, 12000, frac(1000, 0), none, false},
		{150, 40, 12000, frac(0, 2), none, false},
		{150, 40, 12000, frac(0, 0), none, false},
		// pay that is too great for a factor
		{1000, 60, 72000, frac(maxFactor, 1), frac(6000000, 1), true},
		{1, 60, 72000, frac(maxFactor, 1), frac(6000, 1), true},
		{1, 40, 1200, frac(maxFactor+1, 1), none, false},
		{1, 40, 0, frac(maxFactor+1, 1), none, false},
		{1, 40, 1200, frac(maxFactor+1, 1000), none, false},
		{1000, 40, 12000, frac(impl.MaxNum, 1), none, false},
		{1, 1, 0, frac(impl.MaxNum, 1), none, false},
		{1, 40, 12000, frac(impl.MaxNum+1, 1), none, false},
	})
}

// TestAccruedProducts has products that are just valid, and those that just are not.
func TestAccruedProducts(t *testing.T) {
	none := impl.Frac{}
	checkAccruedCases(t, []accruedCase{
		// the denominator of the first product, which counts without service too
		{1, 40, 1200, frac(1, 100), frac(1, 1000000), true},
		{1, 40, 0, frac(1, 100), frac(0, 1), true},
		{1, 40, 1200, frac(1, 101), none, false},
		{1, 40, 0, frac(1, 101), none, false},
		{1, 40, 48000, frac(1, 101), none, false},
		{1000, 40, 1200, frac(1, 100000), frac(1, 1000000), true},
		{1000, 40, 12000, frac(1, 100001), none, false},
		{1000, 40, 0, frac(1, impl.MaxDen), none, false},
		{1, 40, 1200, frac(10000, 999983), frac(1, 999983), true},
		// the first product as a factor of the second one
		{999, 40, 1200, frac(1001, 1), frac(999999, 10000), true},
		{101, 40, 1200, frac(9901, 1), none, false},
		{101, 40, 12000, frac(9901, 1), none, false},
		{101, 40, 0, frac(9901, 1), none, false},
		{100, 40, 12000, frac(9901, 1), frac(9901, 10), true},
		{999, 40, 12000, frac(999999, 1), none, false},
		// the denominator of the second product
		{1000, 40, 75, frac(1, 6250), frac(1, 1000000), true},
		{1000, 40, 75, frac(1, 6251), none, false},
		{1000, 40, 1200, frac(1, 6251), frac(1, 62510), true},
		{1000, 40, 1, frac(1, 100000), none, false},
		{1000, 40, 0, frac(1, 100000), frac(0, 1), true},
		{1000, 40, 48000, frac(1, 100000), frac(1, 25000), true},
		// the order of the products: pay times years is valid, pay times rate is not
		{1, 40, 12000, frac(1, 1000), none, false},
		{1, 40, 48000, frac(3, 400), none, false},
	})
}

// TestAccruedEveryService checks that the pension is in proportion to service up to the cap, and that
// service above the cap adds nothing.
func TestAccruedEveryService(t *testing.T) {
	for _, d := range []impl.Design{design(1, 150, 40), design(2, 1000, 1), design(1, 1, 60), design(2, 625, 59), design(1, 1000, 60), design(2, 3, 2)} {
		pay := frac(20000, 1)
		year, ok := impl.Accrued(d, 1200, pay)
		if !ok || year.Num*10000 != 20000*d.Rate*year.Den {
			t.Errorf("Accrued(%v, 1200, %v) = %v, %v", d, pay, year, ok)
		}
		full, _ := impl.Accrued(d, 1200*d.Cap, pay)
		for service := range mostService + 1 {
			got, ok := impl.Accrued(d, service, pay)
			if !ok || got.Num*1200*year.Den != year.Num*min(service, d.Cap*1200)*got.Den || !impl.FracOk(got) {
				t.Errorf("Accrued(%v, %d, %v) = %v, %v, but one year gives %v", d, service, pay, got, ok, year)
			}
			if service >= 1200*d.Cap && got != full {
				t.Errorf("Accrued(%v, %d, %v) = %v, but the cap gives %v", d, service, pay, got, full)
			}
		}
	}
}

// TestAccruedEveryCap tries the services around every cap, and every rate.
func TestAccruedEveryCap(t *testing.T) {
	for _, kind := range serviceKinds() {
		for years := range 63 {
			for by := -3; by <= 3; by++ {
				checkAccrued(t, design(kind, 150, years), 1200*years+by, frac(1000, 1))
				checkAccrued(t, design(kind, 1000, years), 1200*years+by, frac(700, 9))
			}
		}
		for rate := range 1003 {
			for _, pay := range []impl.Frac{frac(1000, 1), frac(1001, 1), frac(9901, 1), frac(2500, 3), frac(1, 100)} {
				checkAccrued(t, design(kind, rate, 40), 12000, pay)
				checkAccrued(t, design(kind, rate, 9), 12000, pay)
			}
		}
	}
}

// TestAccruedAddsUp checks that service and pay in parts give the parts of a pension.
func TestAccruedAddsUp(t *testing.T) {
	random := rand.New(rand.NewSource(14))
	for range 4000 {
		d := design(1+random.Intn(2), 1+random.Intn(1000), 1+random.Intn(60))
		one, other := random.Intn(600*d.Cap+1), random.Intn(600*d.Cap+1)
		pay, more := 100*random.Intn(80), 100*random.Intn(80)
		accrued := func(service int, pay int) *big.Rat {
			got, ok := impl.Accrued(d, service, frac(pay, 1))
			if !ok {
				t.Fatalf("Accrued(%v, %d, %d) = %v, false", d, service, pay, got)
			}
			return ratOf(got)
		}
		if sum := new(big.Rat).Add(accrued(one, pay), accrued(other, pay)); sum.Cmp(accrued(one+other, pay)) != 0 {
			t.Errorf("%v: the services %d and %d for the pay %d give %v", d, one, other, pay, sum)
		}
		if sum := new(big.Rat).Add(accrued(one, pay), accrued(one, more)); sum.Cmp(accrued(one, pay+more)) != 0 {
			t.Errorf("%v: the pays %d and %d for the service %d give %v", d, pay, more, one, sum)
		}
	}
}

func TestAccruedEveryFraction(t *testing.T) {
	for _, d := range designsOf(serviceKinds()...) {
		for _, service := range services() {
			for _, pay := range fracAmounts() {
				checkAccrued(t, d, service, pay)
			}
		}
	}
}

func TestAccruedRandom(t *testing.T) {
	random := rand.New(rand.NewSource(1414))
	accrued := 0
	const rounds = 20000
	for range rounds {
		d := design(1+random.Intn(2), 1+random.Intn(1000), 1+random.Intn(60))
		most := []int{20, 5000, maxFactor + 10, impl.MaxNum}[random.Intn(4)]
		pay, ok := validOf(big.NewRat(int64(random.Intn(most+1)), int64(1+random.Intn([]int{1, 12, 1000}[random.Intn(3)]))))
		service := random.Intn(mostService + 1)
		checkAccrued(t, d, service, pay)
		if _, is := impl.Accrued(d, service, pay); is && ok {
			accrued++
		}
	}
	if accrued < rounds/10 || accrued > rounds*9/10 {
		t.Errorf("%d of %d random pensions are valid", accrued, rounds)
	}
}

func TestAccruedInvalid(t *testing.T) {
	check := func(d impl.Design, service int, pay impl.Frac) {
		t.Helper()
		if got, ok := impl.Accrued(d, service, pay); ok || got != (impl.Frac{}) {
			t.Errorf("Accrued(%v, %d, %v) = %v, %v", d, service, pay, got, ok)
		}
	}
	everyService := slices.Concat(services(), noServices())
	pays := []impl.Frac{frac(0, 1), frac(1, 3), frac(1000, 1)}
	noPays := append(invalidFracs(), frac(-1, 1), frac(-1000, 1), frac(-1, 3), frac(-maxFactor, 1), frac(-impl.MaxNum, 1), frac(-1, impl.MaxDen))
	for _, d := range noDesignsFor(serviceKinds()...) {
		for _, service := range everyService {
			for _, pay := range slices.Concat(pays, noPays) {
				check(d, service, pay)
			}
		}
	}
	for _, d := range designsOf(serviceKinds()...) {
		for _, service := range noServices() {
			for _, pay := range slices.Concat(pays, noPays) {
				check(d, service, pay)
			}
		}
		for _, service := range services() {
			for _, pay := range noPays {
				check(d, service, pay)
			}
		}
	}
}

func TestUnitsFor(t *testing.T) {
	for _, c := range []struct {
		cents, price int
		want         impl.Frac
	}{
		{7, 2, frac(7, 2)}, {6, 2, frac(3, 1)}, {6, 4, frac(3, 2)}, {2, 7, frac(2, 7)}, {7, 7, frac(1, 1)}, {100, 8, frac(25, 2)},
		{0, 1, frac(0, 1)}, {0, 2, frac(0, 1)}, {0, mostPrice, frac(0, 1)},
		{1, 1, frac(1, 1)}, {1, mostPrice, frac(1, mostPrice)}, {1, mostPrice - 1, frac(1, 99999)},
		{mostPrice, mostPrice, frac(1, 1)}, {mostPrice + 1, mostPrice, frac(100001, 100000)}, {99999, mostPrice, frac(99999, 100000)},
		{impl.MaxValue, 1, frac(1000000000, 1)}, {impl.MaxValue, 3, frac(1000000000, 3)}, {impl.MaxValue, mostPrice, frac(10000, 1)},
		{impl.MaxValue, 99999, frac(1000000000, 99999)}, {impl.MaxValue - 1, mostPrice, frac(999999999, 100000)}, {impl.MaxValue - 1, 1, frac(999999999, 1)},
		{0, 0, frac(0, 0)}, {7, 0, frac(0, 0)}, {7, -1, frac(0, 0)}, {7, mostPrice + 1, frac(0, 0)}, {0, mostPrice + 1, frac(0, 0)},
		{-1, 1, frac(0, 0)}, {-7, -2, frac(0, 0)}, {impl.MaxValue + 1, 1, frac(0, 0)}, {impl.MaxValue + 1, mostPrice, frac(0, 0)},
	} {
		if got := impl.UnitsFor(c.cents, c.price); got != c.want {
			t.Errorf("UnitsFor(%d, %d) = %v, want %v", c.cents, c.price, got, c.want)
		}
	}
}

// TestUnitsForEveryPrice checks that the units at their price cost the cents again.
func TestUnitsForEveryPrice(t *testing.T) {
	for price := 1; price <= mostPrice; price++ {
		for _, cents := range []int{0, 1, 2, 360360, 99999, 100000, 123456789, impl.MaxValue - 1, impl.MaxValue} {
			got := impl.UnitsFor(cents, price)
			if !impl.FracOk(got) || got.Num*price != cents*got.Den {
				t.Errorf("UnitsFor(%d, %d) = %v", cents, price, got)
			}
		}
	}
}

// TestUnitsForEverySmallNumber buys the units at once, and one cent after the other.
func TestUnitsForEverySmallNumber(t *testing.T) {
	for price := -2; price <= 40; price++ {
		sum := new(big.Rat)
		for cents := -2; cents <= 200; cents++ {
			got := impl.UnitsFor(cents, price)
			if want := wantedUnits(cents, price); got != want {
				t.Errorf("UnitsFor(%d, %d) = %v, want %v", cents, price, got, want)
			}
			if cents < 0 || price < 1 || got.Den == 0 {
				continue
			}
			if sum.Cmp(ratOf(got)) != 0 {
				t.Errorf("UnitsFor(%d, %d) = %v, but single cents buy %v", cents, price, got, sum)
			}
			sum.Add(sum, big.NewRat(1, int64(price)))
		}
	}
}

func TestUnitsForInvalid(t *testing.T) {
	for _, cents := range append(noCents(), 0, 1, 1000, impl.MaxValue) {
		for _, price := range append(noPrices(), 1, 2, 1000, mostPrice) {
			valid := !slices.Contains(noCents(), cents) && !slices.Contains(noPrices(), price)
			if got := impl.UnitsFor(cents, price); !valid && got != (impl.Frac{}) {
				t.Errorf("UnitsFor(%d, %d) = %v, want the zero Frac", cents, price, got)
			}
		}
	}
}

func TestUnitPension(t *testing.T) {
	for _, c := range []struct {
		rate  int
		units impl.Frac
		want  int
		ok    bool
	}{
		{3, frac(7, 2), 10, true}, // 10.5
		{3, frac(0, 1), 0, true}, {1, frac(0, 1), 0, true}, {1000, frac(0, 1), 0, true},
		{1, frac(1, 1), 1, true}, {1000, frac(1, 1), 1000, true},
		// units of a value below 1
		{1, frac(1, 2), 0, true}, {2, frac(1, 2), 1, true}, {3, frac(1, 2), 1, true}, {4, frac(1, 2), 2, true},
		{3, frac(1, 3), 1, true}, {2, frac(1, 3), 0, true}, {1000, frac(1, 3), 333, true}, {999, frac(1, 1000), 0, true}, {1000, frac(1, 1000), 1, true},
		{1, frac(1, impl.MaxDen), 0, true}, {1000, frac(1, impl.MaxDen), 0, true}, {1, frac(999999, impl.MaxDen), 0, true}, {1000, frac(999999, impl.MaxDen), 999, true},
		{1, frac(2, 3), 0, true}, {1, frac(3, 2), 1, true}, {1, frac(5, 3), 1, true}, {1, frac(999999, 500000), 1, true},
		// the greatest units
		{1, frac(maxFactor, 1), 1000000, true}, {1000, frac(maxFactor, 1), 1000000000, true}, {1000, frac(999999, 1), 999999000, true}, {7, frac(maxFactor, 3), 2333333, true},
		{1, frac(maxFactor+1, 1), 0, false}, {1000, frac(maxFactor+1, 1), 0, false}, {1, frac(maxFactor+1, 1000), 0, false},
		{1, frac(impl.MaxNum, 1), 0, false}, {1, frac(impl.MaxNum, 999999), 0, false}, {1000, frac(impl.MaxNum, 1), 0, false},
		// negative and invalid units
		{3, frac(-1, 1), 0, false}, {3, frac(-7, 2), 0, false}, {3, frac(-1, impl.MaxDen), 0, false}, {3, frac(-impl.MaxNum, 1), 0, false},
		{3, frac(14, 4), 0, false}, {3, frac(-7, -2), 0, false}, {3, frac(7, -2), 0, false}, {3, frac(7, 0), 0, false}, {3, frac(0, 0), 0, false}, {3, frac(0, 2), 0, false},
		// rates that are not valid
		{0, frac(7, 2), 0, false}, {-1, frac(7, 2), 0, false}, {1001, frac(7, 2), 0, false}, {1001, frac(0, 1), 0, false},
	} {
		d := design(impl.DsUnits, c.rate, 0)
		if got, ok := impl.UnitPension(d, c.units); got != c.want || ok != c.ok {
			t.Errorf("UnitPension(%v, %v) = %d, %v, want %d, %v", d, c.units, got, ok, c.want, c.ok)
		}
		checkUnitPension(t, d, c.units)
		for _, kind := range []int{impl.DsFinal, impl.DsAverage, impl.DsAccount, 0, 5, -1} {
			for _, years := range []int{0, 40} {
				if got, ok := impl.UnitPension(design(kind, c.rate, years), c.units); got != 0 || ok {
					t.Errorf("UnitPension of kind %d with %v = %d, %v", kind, c.units, got, ok)
				}
			}
		}
	}
}

func TestUnitPensionEveryRate(t *testing.T) {
	for rate := -2; rate <= 1002; rate++ {
		for _, units := range fracAmounts() {
			checkUnitPension(t, design(impl.DsUnits, rate, 0), units)
		}
	}
	for _, years := range noCapsOf(impl.DsUnits) {
		checkUnitPension(t, design(impl.DsUnits, 3, years), frac(7, 2))
	}
}

// TestUnitsInProportion checks that units that were bought for some cents pay them out again, at the
// rate for each price.
func TestUnitsInProportion(t *testing.T) {
	random := rand.New(rand.NewSource(141414))
	for range 20000 {
		cents, price, rate := random.Intn(maxFactor+1), 1+random.Intn([]int{10, 1000, mostPrice}[random.Intn(3)]), 1+random.Intn(1000)
		units := impl.UnitsFor(cents, price)
		if got, ok := impl.UnitPension(design(impl.DsUnits, rate, 0), units); !ok || got != cents*rate/price {
			t.Errorf("%d cents buy %v units at %d, which pay %d, %v", cents, units, price, got, ok)
		}
		if twice := impl.UnitsFor(2*cents, price); twice.Num*units.Den != 2*units.Num*twice.Den || twice.Den == 0 {
			t.Errorf("%d cents buy %v units at %d, and twice as many %v", cents, units, price, twice)
		}
		// at the rate as the price, all is paid out
		if rate > cents {
			continue
		}
		if got, ok := impl.UnitPension(design(impl.DsUnits, rate, 0), impl.UnitsFor(cents, rate)); !ok || got != cents {
			t.Errorf("%d cents at %d pay %d, %v", cents, rate, got, ok)
		}
	}
}

func TestUnitPensionInvalid(t *testing.T) {
	for _, d := range noDesignsFor(impl.DsUnits) {
		for _, units := range fracAmounts() {
			if got, ok := impl.UnitPension(d, units); got != 0 || ok {
				t.Errorf("UnitPension(%v, %v) = %d, %v", d, units, got, ok)
			}
		}
	}
}

func TestGrowAccount(t *testing.T) {
	const most = impl.MaxValue
	for _, c := range []struct{ rate, balance, credit, earned, want int }{
		// below, at and above the guarantee
		{200, 1000, 50, 100, 1070}, {200, 1000, 50, 199, 1070}, {200, 1000, 50, 200, 1070}, {200, 1000, 50, 201, 1070}, {200, 1000, 50, 210, 1071},
		{200, 1000, 50, 300, 1080}, {200, 1000, 50, 0, 1070}, {200, 1000, 50, -1, 1070}, {200, 1000, 50, -300, 1070},
		{200, 1000, 50, -10000, 1070}, {200, 1000, 50, 10000, 2050}, {200, 1000, 50, -10001, 0}, {200, 1000, 50, 10001, 0},
		{1, 1000000, 0, 0, 1000100}, {1, 1000000, 0, 1, 1000100}, {1, 1000000, 0, 2, 1000200}, {1, 1000000, 0, -10000, 1000100},
		{1000, 1000, 0, 999, 1100}, {1000, 1000, 0, 1000, 1100}, {1000, 1000, 0, 1010, 1101}, {1000, 1000, 0, 10000, 2000},
		// nothing, and the credit alone
		{200, 0, 0, 0, 0}, {200, 0, 0, 10000, 0}, {200, 0, 50, 10000, 50}, {200, 0, most, -10000, most},
		// interest that is rounded down
		{200, 49, 0, 0, 49}, {200, 50, 0, 0, 51}, {200, 99, 0, 0, 100}, {200, 100, 0, 0, 102}, {200, 49, 7, 0, 56},
		{1, 9999, 0, 0, 9999}, {1, 10000, 0, 0, 10001}, {1, 19999, 0, 0, 20000}, {1000, 9, 0, 0, 9}, {1000, 10, 0, 0, 11}, {1, 1, 1, 9999, 2}, {1, 1, 1, 10000, 3},
		// the limits
		{1000, most, most, 10000, 3000000000}, {1000, most, 0, 10000, 2000000000}, {1, most, 0, 0, 1000100000}, {1000, most, 0, 0, 1100000000},
		{1, most, most, -10000, 2000100000}, {999, most - 1, 0, 0, 1099899998}, {1, most - 1, 0, 9999, 1999899998},
		{200, -1, 50, 100, 0}, {200, 1000, -1, 100, 0}, {200, most + 1, 50, 100, 0}, {200, 1000, most + 1, 100, 0}, {200, -1, -1, 100, 0},
		// rates that are not valid
		{0, 1000, 50, 100, 0}, {-1, 1000, 50, 100, 0}, {1001, 1000, 50, 100, 0}, {1001, 1000, 50, 2000, 0},
	} {
		d := design(impl.DsAccount, c.rate, 0)
		if got := impl.GrowAccount(d, c.balance, c.credit, c.earned); got != c.want {
			t.Errorf("GrowAccount(%v, %d, %d, %d) = %d, want %d", d, c.balance, c.credit, c.earned, got, c.want)
		}
		checkGrowth(t, d, c.balance, c.credit, c.earned)
		for _, kind := range []int{impl.DsFinal, impl.DsAverage, impl.DsUnits, 0, 5, -1} {
			for _, years := range []int{0, 40} {
				if got := impl.GrowAccount(design(kind, c.rate, years), c.balance, c.credit, c.earned); got != 0 {
					t.Errorf("GrowAccount of kind %d with %d = %d, want 0", kind, c.balance, got)
				}
			}
		}
	}
}

// checkAtLeast checks that an account earns its guarantee and what it earned, and grows with every
// cent of the credit.
func checkAtLeast(t *testing.T, d impl.Design, balance int, credit int, earned int) {
	t.Helper()
	got := impl.GrowAccount(d, balance, credit, earned)
	for _, rate := range []int{d.Rate, earned} {
		if least := balance + balance*max(rate, 0)/10000 + credit; got < least {
			t.Errorf("GrowAccount(%v, %d, %d, %d) = %d, which is less than %d", d, balance, credit, earned, got, least)
		}
	}
	if low := impl.GrowAccount(d, balance, credit, -10000); got < low || earned <= d.Rate && got != low {
		t.Errorf("GrowAccount(%v, %d, %d, %d) = %d, but the guarantee alone gives %d", d, balance, credit, earned, got, low)
	}
	if more := impl.GrowAccount(d, balance, credit+1, earned); credit < impl.MaxValue && more != got+1 {
		t.Errorf("GrowAccount(%v, %d, %d, %d) = %d, and with one cent more %d", d, balance, credit, earned, got, more)
	}
}

func TestGrowAccountEveryNumber(t *testing.T) {
	numbers := []int{0, 1, 2, 49, 50, 9999, 10000, 10001, 123456, impl.MaxValue - 1, impl.MaxValue}
	for _, d := range designsOf(impl.DsAccount) {
		for _, balance := range numbers {
			for _, credit := range numbers {
				for _, earned := range earnings() {
					checkGrowth(t, d, balance, credit, earned)
					checkAtLeast(t, d, balance, credit, earned)
				}
			}
		}
	}
}

func TestGrowAccountEveryRate(t *testing.T) {
	for earned := -10002; earned <= 10002; earned++ {
		for _, rate := range []int{1, 200, 1000} {
			checkGrowth(t, design(impl.DsAccount, rate, 0), 12345, 7, earned)
		}
	}
	for rate := -2; rate <= 1002; rate++ {
		for _, earned := range []int{-10000, 0, rate - 1, rate, rate + 1, 10000} {
			checkGrowth(t, design(impl.DsAccount, rate, 0), 12345, 7, earned)
		}
	}
}

func TestGrowAccountRandom(t *testing.T) {
	random := rand.New(rand.NewSource(14141414))
	for range 20000 {
		most := []int{300, 100000, impl.MaxValue}[random.Intn(3)]
		d := design(impl.DsAccount, 1+random.Intn(1000), 0)
		balance, credit, earned := random.Intn(most+1), random.Intn(most+1), random.Intn(20001)-10000
		checkGrowth(t, d, balance, credit, earned)
		checkAtLeast(t, d, balance, credit, earned)
	}
}

func TestGrowAccountInvalid(t *testing.T) {
	check := func(d impl.Design, balance int, credit int, earned int) {
		t.Helper()
		if got := impl.GrowAccount(d, balance, credit, earned); got != 0 {
			t.Errorf("GrowAccount(%v, %d, %d, %d) = %d, want 0", d, balance, credit, earned, got)
		}
	}
	for _, d := range noDesignsFor(impl.DsAccount) {
		for _, earned := range slices.Concat(earnings(), noEarnings()) {
			check(d, 1000, 50, earned)
			check(d, impl.MaxValue, impl.MaxValue, earned)
			check(d, 1000, -1, earned)
		}
	}
	account := design(impl.DsAccount, 200, 0)
	for _, balance := range append(noCents(), 0, 1000, impl.MaxValue) {
		for _, credit := range append(noCents(), 0, 50, impl.MaxValue) {
			for _, earned := range append(noEarnings(), -10000, 0, 100, 10000) {
				if slices.Contains(noCents(), balance) || slices.Contains(noCents(), credit) || slices.Contains(noEarnings(), earned) {
					check(account, balance, credit, earned)
				}
			}
		}
	}
}

// accrualResults holds the results of all functions of the chapter.
type accrualResults struct {
	isOk      bool
	accrued   impl.Frac
	accruedOk bool
	units     impl.Frac
	pension   int
	pensionOk bool
	grown     int
}

// TestAccrualKeepsNothing calls the functions in other orders, with other arguments in between, and
// checks that the results are the same and the arguments unchanged.
func TestAccrualKeepsNothing(t *testing.T) {
	designs := slices.Concat(designsOf(1, 2, 3, 4), invalidDesigns())
	pays := fracAmounts()
	call := func(i int) accrualResults {
		d, pay := designs[i%len(designs)], pays[i%len(pays)]
		given, paid := d, pay
		var r accrualResults
		r.isOk = impl.DesignOk(d)
		r.accrued, r.accruedOk = impl.Accrued(d, i*7%(mostService+2), pay)
		r.units = impl.UnitsFor(i*1000003%(impl.MaxValue+2), i%(mostPrice+2))
		r.pension, r.pensionOk = impl.UnitPension(d, pay)
		r.grown = impl.GrowAccount(d, i*1009%(impl.MaxValue+2), i, i%20003-10001)
		if d != given || pay != paid {
			t.Errorf("a function changes its arguments %v and %v", given, paid)
		}
		return r
	}
	const count = 20000
	var first []accrualResults
	for i := range count {
		first = append(first, call(i))
	}
	for _, i := range rand.New(rand.NewSource(5)).Perm(count) {
		if got := call(i); got != first[i] || call(i) != got {
			t.Errorf("call %d returns %v, and %v before", i, got, first[i])
		}
	}
}
