package tests

import (
	"math"
	"math/big"
	"math/rand"
	"slices"
	"testing"

	"loop.example/g00980/impl"
)

// mostAmount and mostMonths are written as numbers here, so that a change of the limits does not
// change the tests.
const (
	mostAmount = 10000000
	mostMonths = 300
)

type account struct {
	name  string
	dues  []int
	paids []int
}

func amounts(list ...int) []int { return list }

func noAmounts() []int {
	return []int{-1, -2, -12000, -mostAmount, mostAmount + 1, mostAmount + 2, 2 * mostAmount, 1000000000, 1 << 32, -1 << 32, 1<<32 + 1, math.MaxInt, math.MinInt}
}

func yearlyRates() []int { return []int{0, 1, 2, 12, 60, 100, 120, 499, 500} }

func noYearlyRates() []int {
	return []int{-1, -2, -60, -500, 501, 502, 600, 1000, 12000, 1<<16 + 60, 1<<32 + 60, -1 << 32, math.MaxInt, math.MinInt}
}

// validAccounts has balances of every kind: positive, 0 and negative ones in every order.
func validAccounts() []account {
	return []account{
		{"no months", nil, nil},
		{"no months, empty lists", amounts(), amounts()},
		{"no months, one list nil", nil, amounts()},
		{"nothing due, nothing paid", amounts(0), amounts(0)},
		{"nothing for many months", repeated(0, 50), repeated(0, 50)},
		{"one month due", amounts(12000), amounts(0)},
		{"one month paid", amounts(0), amounts(12000)},
		{"one month settled", amounts(12000), amounts(12000)},
		{"the example", amounts(12000, 0, 0), amounts(0, 0, 12060)},
		{"interest on interest", amounts(100000, 0, 0, 0, 0, 0), repeated(0, 6)},
		{"paid in the next month", amounts(12000, 12000, 12000, 0), amounts(0, 12000, 12000, 12000)},
		{"paid a month ahead", amounts(0, 12000, 12000, 12000), amounts(12000, 12000, 12000, 0)},
		{"paid far ahead", repeated(100, 30), append(amounts(3000), repeated(0, 29)...)},
		{"negative, and positive again", amounts(0, 0, 30000, 0, 0, 12000, 0), amounts(24000, 0, 0, 0, 18000, 0, 0)},
		{"negative, and 0 again", amounts(0, 12000, 0, 0), amounts(24000, 0, 0, 0)},
		{"negative by one cent", amounts(12000, 0, 0, 24001), amounts(12001, 0, 0, 0)},
		{"positive by one cent", amounts(12001, 0, 0, 0), amounts(12000, 0, 0, 2)},
		{"positive, negative and positive", amounts(12000, 0, 0, 50000, 0), amounts(0, 30000, 0, 0, 0)},
		{"negative all the time", repeated(100, 12), append(amounts(90000), repeated(99, 11)...)},
		{"the greatest negative", amounts(0, 0, 0, mostAmount), amounts(mostAmount, mostAmount, mostAmount, 0)},
		{"interest of 0", amounts(23, 0, 0, 0), repeated(0, 4)},
		{"interest of one cent", amounts(24, 0, 0, 0), repeated(0, 4)},
		{"interest of 0 at the least rate", amounts(11999, 0, 0), repeated(0, 3)},
		{"interest of one cent at the least rate", amounts(12000, 0, 0), repeated(0, 3)},
		{"the elements at their limits", amounts(0, mostAmount, 0, mostAmount), amounts(mostAmount, 0, 0, mostAmount)},
		{"the elements beside their limits", amounts(1, mostAmount-1, 1), amounts(mostAmount-1, 1, mostAmount-1)},
		{"the greatest dues", repeated(mostAmount, mostMonths), repeated(0, mostMonths)},
		{"the greatest dues, paid at the end", repeated(mostAmount, mostMonths), append(repeated(0, mostMonths-1), mostAmount)},
		{"the greatest payments", repeated(0, mostMonths), repeated(mostAmount, mostMonths)},
		{"the greatest dues and payments", repeated(mostAmount, mostMonths), repeated(mostAmount, mostMonths)},
		{"one month less than the most", repeated(777, mostMonths-1), repeated(778, mostMonths-1)},
		{"due in the last month", append(repeated(0, mostMonths-1), 5), repeated(0, mostMonths)},
		{"paid in the last month", repeated(0, mostMonths), append(repeated(0, mostMonths-1), 5)},
	}
}

// invalidAccounts has lists of which at least one is not valid, or which have different lengths.
func invalidAccounts() []account {
	list := []account{
		{"nothing and one month", nil, amounts(0)},
		{"one month and nothing", amounts(0), nil},
		{"an empty list and one month", amounts(), amounts(5)},
		{"one month and two", amounts(5), amounts(5, 0)},
		{"two months and one", amounts(5, 0), amounts(5)},
		{"one month less", repeated(5, mostMonths-1), repeated(5, mostMonths)},
		{"one month more", repeated(5, mostMonths), repeated(5, mostMonths-1)},
		{"too many dues", repeated(5, mostMonths+1), repeated(5, mostMonths)},
		{"too many payments", repeated(5, mostMonths), repeated(5, mostMonths+1)},
		{"too many months", repeated(5, mostMonths+1), repeated(5, mostMonths+1)},
		{"too many months without a figure", repeated(0, mostMonths+1), repeated(0, mostMonths+1)},
		{"far too many months", repeated(0, 2*mostMonths), repeated(0, 2*mostMonths)},
		{"as many months as there are", repeated(mostAmount, monthEnd), repeated(0, monthEnd)},
	}
	for _, bad := range noAmounts() {
		list = append(list,
			account{"a due alone", amounts(bad), amounts(0)},
			account{"a payment alone", amounts(0), amounts(bad)},
			account{"both", amounts(bad), amounts(bad)},
			account{"the first due", amounts(bad, 0, 12000), amounts(0, 5, 0)},
			account{"the last payment", amounts(12000, 0, 5), amounts(0, 0, bad)},
			account{"more months, too", amounts(bad, 0), amounts(0)},
		)
	}
	return list
}

// begin keeps the messages about long lists short.
func begin(list []int) []int { return list[:min(len(list), 12)] }

func accountValid(dues []int, paids []int, rate int) bool {
	for _, list := range [][]int{dues, paids} {
		sorted := slices.Sorted(slices.Values(list))
		if len(sorted) > 0 && (sorted[0] < 0 || sorted[len(sorted)-1] > 10000000) {
			return false
		}
	}
	return len(dues) == len(paids) && len(dues) < 301 && rate >= 0 && rate < 501
}

// wantedAccount is written apart from the program and in numbers without limits: the balances, the
// sum of the interest and the first index with a positive balance.
func wantedAccount(dues []int, paids []int, rate int) ([]int, int, int) {
	if !accountValid(dues, paids, rate) {
		return nil, 0, -1
	}
	var balances []int
	balance, sum, first := new(big.Int), new(big.Int), -1
	for i, due := range dues {
		if balance.Sign() > 0 {
			interest := new(big.Int).Mul(balance, big.NewInt(int64(rate)))
			interest.Div(interest, big.NewInt(12000))
			balance.Add(balance, interest)
			sum.Add(sum, interest)
		}
		balance.Add(balance, big.NewInt(int64(due)))
		balance.Sub(balance, big.NewInt(int64(paids[i])))
		balances = append(balances, int(balance.Int64()))
		if balance.Sign() > 0 && first < 0 {
			first = i
		}
	}
	return balances, int(sum.Int64()), first
}

// checkAccount checks the three functions against wantedAccount, and the promise.
func checkAccount(t *testing.T, name string, dues []int, paids []int, rate int) {
	t.Helper()
	balances, interest, first := wantedAccount(dues, paids, rate)
	got := impl.RunAccount(dues, paids, rate)
	if !slices.Equal(got, balances) {
		t.Errorf("%s: RunAccount(%v, %v, %d) = %v, want %v", name, begin(dues), begin(paids), rate, begin(got), begin(balances))
	}
	if got := impl.InterestIn(dues, paids, rate); got != interest {
		t.Errorf("%s: InterestIn(%v, %v, %d) = %d, want %d", name, begin(dues), begin(paids), rate, got, interest)
	}
	if got := impl.FirstArrears(dues, paids, rate); got != first {
		t.Errorf("%s: FirstArrears(%v, %v, %d) = %d, want %d", name, begin(dues), begin(paids), rate, got, first)
	}
	if !accountValid(dues, paids, rate) || len(dues) == 0 || len(got) != len(dues) {
		return
	}
	if sum := sumOf(dues) + impl.InterestIn(dues, paids, rate) - sumOf(paids); got[len(got)-1] != sum {
		t.Errorf("%s: RunAccount(%v, %v, %d) ends with %d, but the sum of all is %d", name, begin(dues), begin(paids), rate, got[len(got)-1], sum)
	}
}

func TestDueFor(t *testing.T) {
	for _, c := range []struct{ pay, rate, want int }{
		{123456, 95, 11728}, // 11728.32
		{300000, 180, 54000},
		{0, 0, 0}, {0, 1, 0}, {0, 1000, 0}, {1, 0, 0}, {300000, 0, 0},
		{impl.MaxValue, 0, 0}, {impl.MaxValue, 1, 1000000}, {impl.MaxValue, 999, 999000000}, {impl.MaxValue, 1000, 1000000000},
		{impl.MaxValue - 1, 1000, 999999999}, {impl.MaxValue - 1, 999, 998999999}, {impl.MaxValue - 1, 1, 999999},
		// products that are not divisible by 1000, and those beside them
		{1, 1, 0}, {1, 999, 0}, {1, 1000, 1}, {2, 999, 1}, {999, 1, 0}, {1000, 1, 1}, {1001, 1, 1}, {1999, 1, 1}, {2000, 1, 2},
		{333, 3, 0}, {334, 3, 1}, {499, 2, 0}, {500, 2, 1}, {999, 999, 998}, {1001, 999, 999}, {12345, 678, 8369},
	} {
		if got := impl.DueFor(c.pay, c.rate); got != c.want {
			t.Errorf("DueFor(%d, %d) = %d, want %d", c.pay, c.rate, got, c.want)
		}
	}
}

// TestDueForEveryRate checks that the due and what was rounded off make up the product.
func TestDueForEveryRate(t *testing.T) {
	random := rand.New(rand.NewSource(13))
	pays := []int{0, 1, 2, 7, 999, 1000, 1001, 123456, impl.MaxValue - 1, impl.MaxValue}
	for range 50 {
		pays = append(pays, random.Intn(impl.MaxValue+1))
	}
	for _, pay := range pays {
		for rate := range 1001 {
			got := impl.DueFor(pay, rate)
			if rest := pay*rate - got*1000; rest < 0 || rest > 999 {
				t.Errorf("DueFor(%d, %d) = %d, which leaves %d per mille", pay, rate, got, rest)
			}
		}
	}
}

func TestDueForInvalid(t *testing.T) {
	noPays := []int{-1, -2, -1000, -impl.MaxValue, impl.MaxValue + 1, impl.MaxValue + 1000, 1 << 32, -1 << 32, 1<<32 + 1000, math.MaxInt, math.MinInt}
	noRates := []int{-1, -2, -1000, 1001, 1002, 2000, 1<<8 + 1000, 1<<32 + 1, -1 << 32, math.MaxInt, math.MinInt}
	for _, pay := range append(noPays, 0, 1, 1000, 123456, impl.MaxValue) {
		for _, rate := range append(noRates, 0, 1, 95, 1000) {
			if !slices.Contains(noPays, pay) && !slices.Contains(noRates, rate) {
				continue
			}
			if got := impl.DueFor(pay, rate); got != 0 {
				t.Errorf("DueFor(%d, %d) = %d, want 0", pay, rate, got)
			}
		}
	}
}

func TestRunAccount(t *testing.T) {
	for _, c := range []struct {
		name        string
		dues, paids []int
		rate        int
		want        []int
		interest    int
		first       int
	}{
		{"no months", nil, nil, 60, nil, 0, -1},
		{"the example", amounts(12000, 0, 0), amounts(0, 0, 12060), 60, amounts(12000, 12060, 60), 120, 0},
		{"one month", amounts(12000), amounts(5000), 60, amounts(7000), 0, 0},
		{"one month paid", amounts(0), amounts(5000), 60, amounts(-5000), 0, -1},
		{"no rate", amounts(12000, 500, 0), amounts(0, 200, 100), 0, amounts(12000, 12300, 12200), 0, 0},
		{"the least rate", amounts(11999, 1, 0, 0), amounts(0, 0, 0, 0), 1, amounts(11999, 12000, 12001, 12002), 2, 0},
		{"the greatest rate", amounts(24, 0, 0, 23), amounts(0, 0, 26, 0), 500, amounts(24, 25, 0, 23), 2, 0},
		{"interest on interest", amounts(100000, 0, 0, 0), amounts(0, 0, 0, 0), 120, amounts(100000, 101000, 102010, 103030), 3030, 0},
		{"interest before the due is added", amounts(12000, 12000, 12000), amounts(0, 0, 0), 100, amounts(12000, 24100, 36300), 300, 0},
		{"interest before the payment is subtracted", amounts(12000, 0, 0), amounts(0, 12000, 0), 100, amounts(12000, 100, 100), 100, 0},
		{"interest of 0", amounts(23, 0, 0, 0), amounts(0, 0, 0, 0), 500, amounts(23, 23, 23, 23), 0, 0},
		{"interest of 0 until more is due", amounts(20, 0, 4, 0), amounts(0, 0, 0, 0), 500, amounts(20, 20, 24, 25), 1, 0},
		{"a negative balance bears no interest", amounts(0, 0, 0), amounts(24000, 0, 0), 500, amounts(-24000, -24000, -24000), 0, -1},
		{"a negative balance of one cent", amounts(0, 0, 25), amounts(1, 0, 0), 500, amounts(-1, -1, 24), 0, 2},
		{"a balance of 0 bears no interest", amounts(12000, 0, 0, 1), amounts(12000, 0, 0, 0), 500, amounts(0, 0, 0, 1), 0, 3},
		{"negative, positive again, and negative", amounts(0, 0, 48000, 0, 0), amounts(24000, 0, 0, 0, 30000), 500, amounts(-24000, -24000, 24000, 25000, -3959), 2041, 2},
		{"positive, negative, positive", amounts(12000, 0, 24001, 0), amounts(0, 13001, 0, 0), 500, amounts(12000, -501, 23500, 24479), 1479, 0},
		{"negative, and 0 at last", amounts(0, 100, 100), amounts(200, 0, 0), 500, amounts(-200, -100, 0), 0, -1},
		{"the elements at their limits", amounts(0, mostAmount, mostAmount), amounts(mostAmount, 0, 0), 500, amounts(-mostAmount, 0, mostAmount), 0, 2},
		{"positive only in the middle", amounts(10, 10, 30, 0, 10), amounts(10, 20, 0, 30, 5), 0, amounts(0, -10, 20, -10, -5), 0, 2},
		{"positive only at the end", amounts(10, 10, 10, 11), amounts(10, 10, 10, 10), 500, amounts(0, 0, 0, 1), 0, 3},
	} {
		if got := impl.RunAccount(c.dues, c.paids, c.rate); !slices.Equal(got, c.want) {
			t.Errorf("%s: RunAccount(%v, %v, %d) = %v, want %v", c.name, begin(c.dues), begin(c.paids), c.rate, got, c.want)
		}
		if got := impl.InterestIn(c.dues, c.paids, c.rate); got != c.interest {
			t.Errorf("%s: InterestIn(%v, %v, %d) = %d, want %d", c.name, begin(c.dues), begin(c.paids), c.rate, got, c.interest)
		}
		if got := impl.FirstArrears(c.dues, c.paids, c.rate); got != c.first {
			t.Errorf("%s: FirstArrears(%v, %v, %d) = %d, want %d", c.name, begin(c.dues), begin(c.paids), c.rate, got, c.first)
		}
		checkAccount(t, c.name, c.dues, c.paids, c.rate)
	}
}

// TestRunAccountGreatest has the greatest balance, the greatest sum of interest and the least balance.
func TestRunAccountGreatest(t *testing.T) {
	dues, nothing := repeated(mostAmount, mostMonths), repeated(0, mostMonths)
	balances := impl.RunAccount(dues, nothing, 500)
	if len(balances) != mostMonths || balances[mostMonths-1] != 49984945627516 {
		t.Errorf("the greatest balances are %v", balances)
	}
	if got := impl.InterestIn(dues, nothing, 500); got != 49981945627516 {
		t.Errorf("the greatest interest is %d", got)
	}
	if balances = impl.RunAccount(nothing, dues, 500); len(balances) != mostMonths || balances[mostMonths-1] != -3000000000 {
		t.Errorf("the least balances are %v", balances)
	}
	if got := impl.InterestIn(nothing, dues, 500); got != 0 {
		t.Errorf("the interest on negative balances is %d", got)
	}
	if got := impl.FirstArrears(nothing, dues, 500); got != -1 {
		t.Errorf("the first arrears of negative balances are %d", got)
	}
}

func TestAccountsEveryRate(t *testing.T) {
	for _, a := range validAccounts() {
		for rate := range 501 {
			if len(a.dues) < 50 || rate%50 == 0 || rate == 1 || rate == 499 {
				checkAccount(t, a.name, a.dues, a.paids, rate)
			}
		}
	}
}

func TestFirstArrearsEveryIndex(t *testing.T) {
	for count := 1; count <= mostMonths; count += 23 {
		for at := range count {
			dues, paids := repeated(100, count), repeated(100, count)
			dues[at] = 101
			if got := impl.FirstArrears(dues, paids, 60); got != at {
				t.Errorf("FirstArrears of %d months = %d, want %d", count, got, at)
			}
			// What was paid in advance covers the due of one cent more.
			paids[0]++
			if got := impl.FirstArrears(dues, paids, 60); got != -1 {
				t.Errorf("FirstArrears of %d months with the due %d paid in advance = %d, want -1", count, at, got)
			}
		}
	}
}

// checkNoAccount checks the results for arguments that are not valid.
func checkNoAccount(t *testing.T, name string, dues []int, paids []int, rate int) {
	t.Helper()
	if got := impl.RunAccount(dues, paids, rate); got != nil {
		t.Errorf("%s: RunAccount(%v, %v, %d) = %v, want nil", name, begin(dues), begin(paids), rate, got)
	}
	if got := impl.InterestIn(dues, paids, rate); got != 0 {
		t.Errorf("%s: InterestIn(%v, %v, %d) = %d, want 0", name, begin(dues), begin(paids), rate, got)
	}
	if got := impl.FirstArrears(dues, paids, rate); got != -1 {
		t.Errorf("%s: FirstArrears(%v, %v, %d) = %d, want -1", name, begin(dues), begin(paids), rate, got)
	}
}

func TestAccountsInvalid(t *testing.T) {
	for _, a := range invalidAccounts() {
		for _, rate := range slices.Concat(yearlyRates(), noYearlyRates()) {
			checkNoAccount(t, a.name, a.dues, a.paids, rate)
		}
	}
	for _, a := range validAccounts() {
		for _, rate := range noYearlyRates() {
			checkNoAccount(t, a.name, a.dues, a.paids, rate)
		}
	}
}

// TestAccountsEveryPlace puts an amount that is not valid, and one that is, at each place of the
// longest lists.
func TestAccountsEveryPlace(t *testing.T) {
	for at := range mostMonths {
		for _, amount := range []int{-1, mostAmount + 1} {
			list := repeated(7, mostMonths)
			list[at] = amount
			checkNoAccount(t, "an invalid due", list, repeated(7, mostMonths), 60)
			checkNoAccount(t, "an invalid payment", repeated(7, mostMonths), list, 60)
		}
		for _, amount := range []int{0, mostAmount} {
			list := repeated(7, mostMonths)
			list[at] = amount
			checkAccount(t, "a due at its limit", list, repeated(7, mostMonths), 60)
			checkAccount(t, "a payment at its limit", repeated(7, mostMonths), list, 60)
		}
	}
}

// TestAccountsEverySmallList runs every account of up to four months with a few amounts.
func TestAccountsEverySmallList(t *testing.T) {
	few := []int{0, 25, 12000}
	kinds := len(few) * len(few)
	for count := range 5 {
		codes := 1
		for range count {
			codes *= kinds
		}
		for code := range codes {
			var dues, paids []int
			for range count {
				dues, paids = append(dues, few[code%kinds/len(few)]), append(paids, few[code%len(few)])
				code /= kinds
			}
			for _, rate := range []int{0, 1, 60, 500} {
				checkAccount(t, "a small list", dues, paids, rate)
			}
		}
	}
}

// randomAmounts holds so many amounts up to a random limit.
func randomAmounts(random *rand.Rand, count int) []int {
	limit := []int{30, 2000, 100000, mostAmount}[random.Intn(4)]
	var list []int
	for range count {
		list = append(list, random.Intn(limit+1))
	}
	return list
}

func TestRandomAccounts(t *testing.T) {
	random := rand.New(rand.NewSource(1313))
	for range 4000 {
		count := random.Intn([]int{5, 40, mostMonths + 1}[random.Intn(3)])
		dues, paids := randomAmounts(random, count), randomAmounts(random, count)
		checkAccount(t, "a random account", dues, paids, random.Intn(501))
		// about as much is paid as is due
		for i := range paids {
			paids[i] = max(0, min(mostAmount, dues[i]+random.Intn(201)-100))
		}
		checkAccount(t, "a random account near 0", dues, paids, random.Intn(501))
	}
}

// settling returns the account that SettleBy is about.
func settling(balance int, months int, payment int) ([]int, []int) {
	return append(amounts(balance), repeated(0, months)...), append(amounts(0), repeated(payment, months)...)
}

// checkSettled checks an answer of SettleBy against RunAccount, and against wantedAccount.
func checkSettled(t *testing.T, balance int, rate int, months int) {
	t.Helper()
	payment := impl.SettleBy(balance, rate, months)
	if payment < 0 || payment > 2*balance {
		t.Errorf("SettleBy(%d, %d, %d) = %d", balance, rate, months, payment)
		return
	}
	dues, paids := settling(balance, months, payment)
	left, apart := impl.RunAccount(dues, paids, rate), lastWanted(balance, rate, months, payment)
	if len(left) != months+1 || left[months] > 0 || apart != left[months] {
		t.Errorf("SettleBy(%d, %d, %d) = %d, but the balances are %v", balance, rate, months, payment, left)
	}
	if payment == 0 {
		return
	}
	dues, paids = settling(balance, months, payment-1)
	left, apart = impl.RunAccount(dues, paids, rate), lastWanted(balance, rate, months, payment-1)
	if len(left) != months+1 || left[months] <= 0 || apart != left[months] {
		t.Errorf("SettleBy(%d, %d, %d) = %d, but one cent less settles it: %v", balance, rate, months, payment, left)
	}
}

// lastWanted returns the last balance of the account that SettleBy is about.
func lastWanted(balance int, rate int, months int, payment int) int {
	dues, paids := settling(balance, months, payment)
	balances, _, _ := wantedAccount(dues, paids, rate)
	return balances[months]
}

func TestSettleBy(t *testing.T) {
	for _, c := range []struct{ balance, rate, months, want int }{
		{100, 0, 3, 34}, {12000, 60, 1, 12060}, {12000, 60, 2, 6045},
		{0, 0, 1, 0}, {0, 0, 120, 0}, {0, 500, 1, 0}, {0, 500, 120, 0}, {0, 60, 12, 0},
		{1, 0, 1, 1}, {1, 0, 2, 1}, {1, 0, 120, 1}, {1, 500, 1, 1}, {1, 500, 120, 1},
		{2, 0, 3, 1}, {3, 0, 3, 1}, {4, 0, 3, 2},
		{1000000, 0, 1, 1000000}, {1000000, 0, 2, 500000}, {1000000, 0, 3, 333334}, {1000000, 0, 119, 8404}, {1000000, 0, 120, 8334},
		{1000000, 1, 1, 1000083}, {1000000, 1, 120, 8375}, {1000000, 60, 12, 86066},
		{1000000, 500, 1, 1041666}, {1000000, 500, 2, 531462}, {1000000, 500, 119, 41993}, {1000000, 500, 120, 41980},
		{999999, 499, 119, 41912}, {1000, 120, 10, 106}, {50000, 40, 24, 2171}, {12000, 500, 120, 504},
		// interest of 0 and of one cent
		{23, 500, 1, 23}, {24, 500, 1, 25}, {23, 500, 2, 12}, {24, 500, 2, 13}, {11999, 1, 1, 11999}, {12000, 1, 1, 12001}, {12000, 1, 2, 6001},
	} {
		if got := impl.SettleBy(c.balance, c.rate, c.months); got != c.want {
			t.Errorf("SettleBy(%d, %d, %d) = %d, want %d", c.balance, c.rate, c.months, got, c.want)
		}
		checkSettled(t, c.balance, c.rate, c.months)
	}
}

func TestSettleByEveryMonth(t *testing.T) {
	for months := 1; months <= 120; months++ {
		for _, balance := range []int{0, 1, 2, 23, 24, 25, 119, 120, 121, 11999, 12000, 12001, 999999, 1000000} {
			for _, rate := range yearlyRates() {
				checkSettled(t, balance, rate, months)
			}
		}
	}
}

// TestSettleByEverySmallBalance tries every payment from 0 on.
func TestSettleByEverySmallBalance(t *testing.T) {
	for balance := range 80 {
		for _, rate := range yearlyRates() {
			for months := 1; months <= 7; months++ {
				want := 0
				for lastWanted(balance, rate, months, want) > 0 {
					want++
				}
				if got := impl.SettleBy(balance, rate, months); got != want {
					t.Errorf("SettleBy(%d, %d, %d) = %d, want %d", balance, rate, months, got, want)
				}
			}
		}
	}
}

func TestSettleByRandom(t *testing.T) {
	random := rand.New(rand.NewSource(131313))
	for range 3000 {
		balance := random.Intn([]int{300, 20000, 1000001}[random.Intn(3)])
		checkSettled(t, balance, random.Intn(501), 1+random.Intn(120))
	}
}

func TestSettleByInvalid(t *testing.T) {
	noBalances := []int{-1, -2, -1000000, 1000001, 1000002, mostAmount, mostAmount + 1, 1<<32 + 5, -1 << 32, math.MaxInt, math.MinInt}
	noTerms := []int{0, -1, -2, -120, 121, 122, mostMonths, mostMonths + 1, 1<<32 + 5, -1 << 32, math.MaxInt, math.MinInt}
	for _, balance := range append(noBalances, 0, 1, 12000, 1000000) {
		for _, rate := range append(noYearlyRates(), 0, 60, 500) {
			for _, months := range append(noTerms, 1, 12, 120) {
				valid := !slices.Contains(noBalances, balance) && !slices.Contains(noYearlyRates(), rate) && !slices.Contains(noTerms, months)
				if got := impl.SettleBy(balance, rate, months); !valid && got != -1 {
					t.Errorf("SettleBy(%d, %d, %d) = %d, want -1", balance, rate, months, got)
				}
			}
		}
	}
}

func TestAccountsShareNoMemory(t *testing.T) {
	const mark = -77
	for _, a := range slices.Concat(validAccounts(), invalidAccounts()) {
		for _, rate := range []int{0, 60, 500, -1, 501} {
			dues, paids := withRoom(a.dues, mark), withRoom(a.paids, mark)
			one, other := impl.RunAccount(dues, paids, rate), impl.RunAccount(dues, paids, rate)
			impl.InterestIn(dues, paids, rate)
			impl.FirstArrears(dues, paids, rate)
			want, _, _ := wantedAccount(a.dues, a.paids, rate)
			overwriteAll(one, mark-1)
			if !isWithRoom(dues, a.dues, mark) || !isWithRoom(paids, a.paids, mark) {
				t.Errorf("%s: a function or its result changes the arguments %v and %v", a.name, a.dues, a.paids)
			}
			overwriteAll(dues, mark)
			overwriteAll(paids, mark)
			if !slices.Equal(other, want) {
				t.Errorf("%s: the balances changed to %v, want %v", a.name, other, want)
			}
		}
	}
}

// TestAccountsOfOneList pays every due at once with the same list.
func TestAccountsOfOneList(t *testing.T) {
	for _, a := range validAccounts() {
		if got := impl.RunAccount(a.dues, a.dues, 500); !slices.Equal(got, repeated(0, len(a.dues))) {
			t.Errorf("%s: RunAccount of one list = %v", a.name, got)
		}
		checkAccount(t, a.name, a.paids, a.paids, 500)
	}
}
