package tests

import (
	"math"
	"math/rand"
	"slices"
	"testing"

	"loop.example/g00980/impl"
)

func fact(key int, from int, to int, known int, value int) impl.Fact {
	return impl.Fact{Key: key, From: from, To: to, Known: known, Value: value}
}

func storeOf(facts ...impl.Fact) impl.Store { return impl.Store{Facts: facts} }

func sameStore(a impl.Store, b impl.Store) bool { return slices.Equal(a.Facts, b.Facts) }

// noKeys holds numbers that are not the key of a valid fact.
func noKeys() []int {
	return []int{0, -1, -2, -impl.MaxKey, impl.MaxKey + 1, impl.MaxKey + 2, 256, 257, 1<<32 + 1, math.MaxInt, math.MinInt}
}

// changedFacts holds what change makes of a valid fact with each of the numbers.
func changedFacts(numbers []int, change func(f *impl.Fact, n int)) []impl.Fact {
	var list []impl.Fact
	for _, n := range numbers {
		f := fact(7, 10, 20, 30, 40)
		change(&f, n)
		list = append(list, f)
	}
	return list
}

func validFacts() []impl.Fact {
	return slices.Concat(
		[]impl.Fact{fact(7, 10, 20, 30, 40), fact(1, 0, 1, 0, 0), fact(impl.MaxKey, 0, monthEnd, impl.MaxMonth, impl.MaxValue)},
		changedFacts([]int{1, 2, impl.MaxKey - 1, impl.MaxKey}, func(f *impl.Fact, n int) { f.Key = n }),
		changedFacts([]int{0, 1, 18, 19}, func(f *impl.Fact, n int) { f.From = n }),
		changedFacts([]int{11, 12, impl.MaxMonth, monthEnd}, func(f *impl.Fact, n int) { f.To = n }),
		changedFacts([]int{0, 1, impl.MaxMonth - 1}, func(f *impl.Fact, n int) { f.From, f.To = n, n+1 }),
		changedFacts([]int{impl.MaxMonth}, func(f *impl.Fact, n int) { f.From, f.To = n, monthEnd }),
		changedFacts([]int{0, 1, 9, 10, 15, 19, 20, impl.MaxMonth - 1, impl.MaxMonth}, func(f *impl.Fact, n int) { f.Known = n }),
		changedFacts([]int{-impl.MaxValue, 1 - impl.MaxValue, -1, 0, 1, impl.MaxValue - 1, impl.MaxValue}, func(f *impl.Fact, n int) { f.Value = n }),
	)
}

func invalidFacts() []impl.Fact {
	return slices.Concat(
		[]impl.Fact{{}, fact(1, 0, 0, 0, 0), fact(0, 0, 1, 0, 0), fact(1, math.MinInt, math.MaxInt, 0, 0), fact(1, math.MaxInt, math.MinInt, 0, 0)},
		changedFacts(noKeys(), func(f *impl.Fact, n int) { f.Key = n }),
		changedFacts([]int{-1, -2, math.MinInt, 20, 21, impl.MaxMonth, monthEnd, monthEnd + 1, math.MaxInt}, func(f *impl.Fact, n int) { f.From = n }),
		changedFacts([]int{monthEnd + 1, monthEnd + 2, math.MaxInt, 10, 9, 0, -1, math.MinInt}, func(f *impl.Fact, n int) { f.To = n }),
		changedFacts([]int{-2, -1, 0, impl.MaxMonth, monthEnd, monthEnd + 1}, func(f *impl.Fact, n int) { f.From, f.To = n, n }),
		changedFacts([]int{-1, monthEnd}, func(f *impl.Fact, n int) { f.From, f.To = n, n+1 }),
		changedFacts(noMonths(), func(f *impl.Fact, n int) { f.Known = n }),
		changedFacts([]int{-impl.MaxValue - 1, impl.MaxValue + 1, 1 << 32, -1 << 32, math.MaxInt, math.MinInt}, func(f *impl.Fact, n int) { f.Value = n }),
	)
}

// knownFacts holds valid facts that are alike but for the months in which they became known.
func knownFacts(known ...int) []impl.Fact {
	return changedFacts(known, func(f *impl.Fact, n int) { f.Known = n })
}

// manyFacts holds so many valid facts, with every Known twice or three times.
func manyFacts(count int) []impl.Fact {
	var facts []impl.Fact
	for i := range count {
		facts = append(facts, fact(i%3+1, i, i+5, i*2/5, i-50))
	}
	return facts
}

func validStores() []impl.Store {
	list := []impl.Store{{}, storeOf([]impl.Fact{}...), {Facts: []impl.Fact{}}}
	for _, f := range validFacts() {
		list = append(list, storeOf(f), storeOf(f, f), storeOf(f, f, f))
	}
	for _, count := range []int{2, 10, impl.MaxFacts - 1, impl.MaxFacts} {
		list = append(list, storeOf(manyFacts(count)...))
	}
	return append(list,
		storeOf(knownFacts(0, 0, 0)...),
		storeOf(knownFacts(0, 1, 2)...),
		storeOf(knownFacts(5, 5, 6, 6, 6, impl.MaxMonth)...),
		storeOf(knownFacts(impl.MaxMonth, impl.MaxMonth)...),
	)
}

func invalidStores() []impl.Store {
	var list []impl.Store
	for _, bad := range invalidFacts() {
		good := fact(1, 0, 5, bad.Known, 1)
		list = append(list, storeOf(bad), storeOf(bad, good), storeOf(good, bad), storeOf(good, bad, good))
	}
	for _, count := range []int{impl.MaxFacts + 1, impl.MaxFacts + 2, 2 * impl.MaxFacts} {
		list = append(list, storeOf(manyFacts(count)...))
	}
	return append(list,
		storeOf(knownFacts(1, 0)...),
		storeOf(knownFacts(impl.MaxMonth, 0)...),
		storeOf(knownFacts(3, 2, 2, 3, 4)...),
		storeOf(knownFacts(1, 2, 4, 3, 4)...),
		storeOf(knownFacts(1, 2, 4, 3, 3)...),
		storeOf(knownFacts(1, 1, 1, 1, 0)...),
		storeOf(knownFacts(1, 2, 3, 4, 3)...),
		storeOf(append(manyFacts(impl.MaxFacts-1), fact(1, 0, 1, 0, 1))...),
		storeOf(append(knownFacts(1), manyFacts(impl.MaxFacts-1)...)...),
	)
}

// storeValid is written apart from the program, with a sort in place of a comparison of neighbours.
func storeValid(s impl.Store) bool {
	var known []int
	for _, f := range s.Facts {
		if !impl.FactOk(f) {
			return false
		}
		known = append(known, f.Known)
	}
	return len(s.Facts) <= 200 && slices.IsSorted(known)
}

// lastValue goes through the facts from the first one on and lets each one replace those before it.
func lastValue(s impl.Store, key int, m int, known int) (int, bool) {
	value, ok := 0, false
	for _, f := range s.Facts {
		contains := m >= f.From && m <= f.To-1
		if f.Key == key && contains && known >= f.Known {
			value, ok = f.Value, true
		}
	}
	return value, ok
}

func TestFactConstants(t *testing.T) {
	got := []int{impl.MaxFacts, impl.MaxKey, impl.MaxValue}
	if want := []int{200, 50, 1000000000}; !slices.Equal(got, want) {
		t.Errorf("constants are %v, want %v", got, want)
	}
}

func TestFactOk(t *testing.T) {
	for _, f := range validFacts() {
		if !impl.FactOk(f) {
			t.Errorf("FactOk(%v) = false", f)
		}
	}
	for _, f := range invalidFacts() {
		if impl.FactOk(f) {
			t.Errorf("FactOk(%v) = true", f)
		}
	}
}

func TestStoreOk(t *testing.T) {
	for _, s := range validStores() {
		if !impl.StoreOk(s) {
			t.Errorf("StoreOk(%v) = false", s)
		}
	}
	for _, s := range invalidStores() {
		if impl.StoreOk(s) {
			t.Errorf("StoreOk(%v) = true", s)
		}
	}
}

func TestStoreOkEveryKnown(t *testing.T) {
	for code := range 4 * 4 * 4 * 4 {
		known := []int{code % 4, code / 4 % 4, code / 16 % 4, code / 64}
		s := storeOf(knownFacts(known...)...)
		if got := impl.StoreOk(s); got != slices.IsSorted(known) {
			t.Errorf("StoreOk with Known %v = %v", known, got)
		}
	}
}

func TestAddFact(t *testing.T) {
	for _, s := range validStores() {
		for _, f := range slices.Concat(validFacts(), invalidFacts()) {
			want := storeOf(slices.Concat(s.Facts, []impl.Fact{f})...)
			wantOk := storeValid(want)
			if !wantOk {
				want = s
			}
			if got, ok := impl.AddFact(s, f); ok != wantOk || !sameStore(got, want) {
				t.Errorf("AddFact(%v, %v) = %v, %v, want %v, %v", s, f, got, ok, want, wantOk)
			}
		}
	}
}

func TestAddFactNamed(t *testing.T) {
	full := storeOf(manyFacts(impl.MaxFacts)...)
	late := fact(1, 0, 1, impl.MaxMonth, 1)
	for _, c := range []struct {
		name string
		s    impl.Store
		f    impl.Fact
		want bool
	}{
		{"to the empty store", impl.Store{}, fact(1, 0, 1, 0, 0), true},
		{"no fact to the empty store", impl.Store{}, impl.Fact{}, false},
		{"the fact number MaxFacts", storeOf(full.Facts[:impl.MaxFacts-1]...), late, true},
		{"a fact beyond MaxFacts", full, late, false},
		{"with the last Known", storeOf(knownFacts(3, 8)...), fact(1, 0, 1, 8, 1), true},
		{"with a later Known", storeOf(knownFacts(3, 8)...), fact(1, 0, 1, 9, 1), true},
		{"with an earlier Known", storeOf(knownFacts(3, 8)...), fact(1, 0, 1, 7, 1), false},
		{"with an earlier Known and another key", storeOf(fact(2, 0, 1, 8, 1)), fact(1, 5, 6, 7, 1), false},
		{"the same fact again", storeOf(late), late, true},
		{"to a store whose Known decrease", storeOf(knownFacts(8, 3)...), late, false},
	} {
		want := c.s.Facts
		if c.want {
			want = slices.Concat(c.s.Facts, []impl.Fact{c.f})
		}
		if got, ok := impl.AddFact(c.s, c.f); ok != c.want || !slices.Equal(got.Facts, want) {
			t.Errorf("%s: AddFact = %v, %v, want %v, %v", c.name, got, ok, want, c.want)
		}
	}
}

func TestAddFactInvalidStore(t *testing.T) {
	for _, s := range invalidStores() {
		for _, f := range slices.Concat(validFacts(), invalidFacts()[:1]) {
			if got, ok := impl.AddFact(s, f); ok || !sameStore(got, s) {
				t.Errorf("AddFact(%v, %v) = %v, %v, want the store and false", s, f, got, ok)
			}
		}
	}
}

type valueCase struct {
	key, m, known int
	value         int
	ok            bool
}

func checkValues(t *testing.T, name string, s impl.Store, cases []valueCase) {
	t.Helper()
	for _, c := range cases {
		if value, ok := impl.ValueAt(s, c.key, c.m, c.known); value != c.value || ok != c.ok {
			t.Errorf("%s: ValueAt(%d, %d, %d) = %d, %v, want %d, %v", name, c.key, c.m, c.known, value, ok, c.value, c.ok)
		}
	}
}

func TestValueAtOneFact(t *testing.T) {
	checkValues(t, "one fact", storeOf(fact(7, 10, 20, 30, 40)), []valueCase{
		// the months
		{7, 9, 30, 0, false},
		{7, 10, 30, 40, true},
		{7, 11, 30, 40, true},
		{7, 19, 30, 40, true},
		{7, 20, 30, 0, false},
		{7, 0, 30, 0, false},
		{7, impl.MaxMonth, 30, 0, false},
		// known later, in that very month and before
		{7, 10, 29, 0, false},
		{7, 19, 29, 0, false},
		{7, 10, 31, 40, true},
		{7, 10, 0, 0, false},
		{7, 10, 10, 0, false},
		{7, 10, impl.MaxMonth, 40, true},
		// the keys
		{6, 10, 30, 0, false},
		{8, 10, 30, 0, false},
		{0, 10, 30, 0, false},
		{-7, 10, 30, 0, false},
	})
	checkValues(t, "all months", storeOf(fact(1, 0, monthEnd, 0, -3)), []valueCase{
		{1, 0, 0, -3, true},
		{1, impl.MaxMonth, 0, -3, true},
		{1, -1, 0, 0, false},
		{1, monthEnd, 0, 0, false},
		{1, 0, -1, 0, false},
	})
	checkValues(t, "the value 0", storeOf(fact(1, 4, 5, 6, 0)), []valueCase{
		{1, 3, 6, 0, false},
		{1, 4, 6, 0, true},
		{1, 5, 6, 0, false},
		{1, 4, 5, 0, false},
	})
	checkValues(t, "the empty store", impl.Store{}, []valueCase{{1, 0, 0, 0, false}, {1, 0, impl.MaxMonth, 0, false}})
}

func TestValueAtSeveralFacts(t *testing.T) {
	checkValues(t, "overlapping", storeOf(fact(1, 0, 10, 2, 5), fact(1, 4, 16, 8, 7)), []valueCase{
		{1, 3, 8, 5, true}, {1, 4, 8, 7, true}, {1, 9, 8, 7, true}, {1, 10, 8, 7, true}, {1, 15, 8, 7, true}, {1, 16, 8, 0, false},
		{1, 4, 7, 5, true}, {1, 9, 7, 5, true}, {1, 10, 7, 0, false}, {1, 4, 1, 0, false},
	})
	checkValues(t, "touching", storeOf(fact(1, 4, 8, 2, 5), fact(1, 8, 10, 2, 7), fact(1, 1, 4, 2, 9)), []valueCase{
		{1, 0, 2, 0, false}, {1, 1, 2, 9, true}, {1, 3, 2, 9, true}, {1, 4, 2, 5, true},
		{1, 7, 2, 5, true}, {1, 8, 2, 7, true}, {1, 9, 2, 7, true}, {1, 10, 2, 0, false},
	})
	checkValues(t, "the later one inside", storeOf(fact(1, 0, 10, 2, 5), fact(1, 4, 6, 8, 7)), []valueCase{
		{1, 3, 8, 5, true}, {1, 4, 8, 7, true}, {1, 5, 8, 7, true}, {1, 6, 8, 5, true}, {1, 5, 7, 5, true},
	})
	checkValues(t, "the earlier one inside", storeOf(fact(1, 4, 6, 2, 5), fact(1, 0, 10, 8, 7)), []valueCase{
		{1, 3, 8, 7, true}, {1, 4, 8, 7, true}, {1, 5, 8, 7, true}, {1, 6, 8, 7, true}, {1, 5, 7, 5, true}, {1, 6, 7, 0, false},
	})
	checkValues(t, "the same months", storeOf(fact(1, 4, 6, 2, 9), fact(1, 4, 6, 2, 3), fact(1, 4, 6, 3, -1)), []valueCase{
		{1, 4, 1, 0, false}, {1, 4, 2, 3, true}, {1, 5, 3, -1, true}, {1, 6, 3, 0, false},
	})
	checkValues(t, "the same fact", storeOf(fact(1, 4, 6, 2, 9), fact(1, 4, 6, 2, 9)), []valueCase{{1, 4, 2, 9, true}, {1, 6, 2, 0, false}})
	checkValues(t, "other keys between", storeOf(fact(1, 4, 6, 2, 9), fact(2, 4, 6, 2, 3), fact(50, 0, 9, 2, 4)), []valueCase{
		{1, 4, 2, 9, true}, {2, 4, 2, 3, true}, {50, 4, 2, 4, true}, {3, 4, 2, 0, false},
	})
}

// TestValueAtNotChecked uses stores that are not valid, which ValueAt and StoreAsOf have no rule for.
func TestValueAtNotChecked(t *testing.T) {
	checkValues(t, "Known decreases", storeOf(fact(1, 0, 9, 8, 5), fact(1, 0, 9, 3, 7)), []valueCase{
		{1, 0, 8, 7, true}, {1, 0, 3, 7, true}, {1, 0, 2, 0, false},
	})
	checkValues(t, "Known decreases, apart", storeOf(fact(1, 0, 9, 8, 5), fact(1, 3, 4, 3, 7)), []valueCase{
		{1, 0, 8, 5, true}, {1, 0, 7, 0, false}, {1, 3, 7, 7, true},
	})
	checkValues(t, "From above To", storeOf(fact(1, 0, 9, 0, 5), fact(1, 6, 3, 0, 7), fact(1, 4, 4, 0, 8)), []valueCase{
		{1, 2, 0, 5, true}, {1, 3, 0, 5, true}, {1, 4, 0, 5, true}, {1, 6, 0, 5, true},
	})
	checkValues(t, "no key", storeOf(fact(0, 0, 9, 0, 5), fact(51, 0, 9, 0, 6), fact(math.MinInt, 0, 9, 0, 7)), []valueCase{
		{0, 0, 0, 5, true}, {51, 8, 0, 6, true}, {math.MinInt, 8, 0, 7, true},
	})
	checkValues(t, "a value beyond", storeOf(fact(1, 0, 9, 0, math.MaxInt)), []valueCase{{1, 0, 0, math.MaxInt, true}})
	checkValues(t, "no Known", storeOf(fact(1, 0, 9, -4, 5), fact(1, 0, 9, 9000, 6)), []valueCase{
		{1, 0, -5, 0, false}, {1, 0, -4, 5, true}, {1, 0, 8999, 5, true}, {1, 0, 9000, 6, true},
	})
	checkValues(t, "no months", storeOf(fact(1, -9, 9000, 0, 5)), []valueCase{
		{1, -10, 0, 0, false}, {1, -9, 0, 5, true}, {1, 8999, 0, 5, true}, {1, 9000, 0, 0, false},
	})
	many := storeOf(manyFacts(2 * impl.MaxFacts)...)
	checkValues(t, "too many facts", many, []valueCase{{1, 399, impl.MaxMonth, 349, true}, {1, 403, impl.MaxMonth, 349, true}, {1, 404, impl.MaxMonth, 0, false}})
}

func TestStoreAsOf(t *testing.T) {
	facts := []impl.Fact{fact(1, 0, 10, 2, 5), fact(2, 4, 6, 2, 7), fact(1, 4, 6, 8, 9), fact(1, 1, 2, 8, 9), fact(3, 0, 1, impl.MaxMonth, 1)}
	s := storeOf(facts...)
	for _, c := range []struct{ known, count int }{
		{math.MinInt, 0}, {-1, 0}, {0, 0}, {1, 0}, {2, 2}, {3, 2}, {7, 2}, {8, 4}, {9, 4},
		{impl.MaxMonth - 1, 4}, {impl.MaxMonth, 5}, {monthEnd, 5}, {math.MaxInt, 5},
	} {
		if got := impl.StoreAsOf(s, c.known); !slices.Equal(got.Facts, facts[:c.count]) {
			t.Errorf("StoreAsOf(%v, %d) = %v, want the first %d facts", s, c.known, got, c.count)
		}
	}
	mixed := storeOf(fact(0, 9, 1, 8, 5), fact(1, 0, 1, 3, 5), fact(60, -1, 0, 9, 1), fact(1, 0, 1, 3, 4), fact(2, 0, 1, -5, 4))
	for _, c := range []struct {
		known int
		want  []int
	}{
		{-6, nil}, {-5, []int{4}}, {2, []int{4}}, {3, []int{1, 3, 4}}, {7, []int{1, 3, 4}}, {8, []int{0, 1, 3, 4}}, {9, []int{0, 1, 2, 3, 4}},
	} {
		var want []impl.Fact
		for _, i := range c.want {
			want = append(want, mixed.Facts[i])
		}
		if got := impl.StoreAsOf(mixed, c.known); !slices.Equal(got.Facts, want) {
			t.Errorf("StoreAsOf(%v, %d) = %v, want %v", mixed, c.known, got, want)
		}
	}
	if got := impl.StoreAsOf(impl.Store{}, impl.MaxMonth); len(got.Facts) != 0 {
		t.Errorf("StoreAsOf of the empty store is %v", got)
	}
	long := storeOf(manyFacts(2 * impl.MaxFacts)...)
	if got := impl.StoreAsOf(long, impl.MaxMonth); !sameStore(got, long) {
		t.Errorf("StoreAsOf of %d facts has %d", len(long.Facts), len(got.Facts))
	}
}

func TestChangedMonths(t *testing.T) {
	s := storeOf(
		fact(1, 0, 10, 2, 5),   // from no value to a value
		fact(1, 4, 6, 8, 7),    // to another value
		fact(1, 9, 12, 12, 5),  // the same value and a value where there was none
		fact(1, 4, 6, 20, 5),   // back to the first value
		fact(1, 20, 22, 24, 0), // the value 0 where there was none
		fact(2, 30, 33, 24, 1), // another key
		fact(1, impl.MaxMonth, monthEnd, 24, 1),
		fact(1, 0, 1, 24, 6),
	)
	for _, c := range []struct {
		key, a, b int
		want      []int
	}{
		{1, 0, 1, nil},
		{1, 1, 2, []int{0, 1, 2, 3, 4, 5, 6, 7, 8, 9}},
		{1, 2, 7, nil},
		{1, 7, 8, []int{4, 5}},
		{1, 2, 8, []int{4, 5}},
		{1, 8, 11, nil},
		{1, 11, 12, []int{10, 11}},
		{1, 7, 12, []int{4, 5, 10, 11}},
		{1, 12, 20, []int{4, 5}},
		{1, 7, 20, []int{10, 11}},
		{1, 23, 24, []int{0, 20, 21, impl.MaxMonth}},
		{1, 0, impl.MaxMonth, []int{0, 1, 2, 3, 4, 5, 6, 7, 8, 9, 10, 11, 20, 21, impl.MaxMonth}},
		{2, 23, 24, []int{30, 31, 32}},
		{2, 24, impl.MaxMonth, nil},
		{2, 0, 23, nil},
		{3, 0, impl.MaxMonth, nil},
		{impl.MaxKey, 0, impl.MaxMonth, nil},
	} {
		for _, known := range [][2]int{{c.a, c.b}, {c.b, c.a}} {
			if got := impl.ChangedMonths(s, c.key, known[0], known[1]); !slices.Equal(got, c.want) {
				t.Errorf("ChangedMonths(%d, %d, %d) = %v, want %v", c.key, known[0], known[1], got, c.want)
			}
		}
	}
	for _, known := range []int{0, 2, 8, 24, impl.MaxMonth} {
		if got := impl.ChangedMonths(s, 1, known, known); len(got) != 0 {
			t.Errorf("ChangedMonths(1, %d, %d) = %v, want none", known, known, got)
		}
	}
	all := storeOf(fact(impl.MaxKey, 0, monthEnd, impl.MaxMonth, 1))
	got := impl.ChangedMonths(all, impl.MaxKey, impl.MaxMonth-1, impl.MaxMonth)
	if len(got) != monthEnd || !slices.IsSorted(got) || got[0] != 0 || got[impl.MaxMonth] != impl.MaxMonth {
		t.Errorf("of all months, %d changed", len(got))
	}
}

func TestChangedMonthsInvalid(t *testing.T) {
	none := func(s impl.Store, key int, a int, b int) {
		t.Helper()
		if got := impl.ChangedMonths(s, key, a, b); len(got) != 0 {
			t.Errorf("ChangedMonths(%v, %d, %d, %d) = %v, want none", s, key, a, b, got)
		}
	}
	for _, s := range invalidStores() {
		for _, key := range []int{1, 7} {
			none(s, key, 0, impl.MaxMonth)
			none(s, key, impl.MaxMonth, 0)
		}
	}
	s := storeOf(fact(1, 0, monthEnd, 2, 5), fact(impl.MaxKey, 0, monthEnd, 2, 5))
	for _, key := range []int{1, impl.MaxKey} {
		for _, bad := range noMonths() {
			for _, known := range []int{0, 1, 2, impl.MaxMonth} {
				none(s, key, bad, known)
				none(s, key, known, bad)
			}
			none(s, key, bad, -1)
			none(s, key, -1, bad)
		}
	}
	for _, key := range noKeys() {
		none(s, key, 0, impl.MaxMonth)
	}
}

// randomStore has facts of few keys close to one another, so that they overlap, touch and repeat.
func randomStore(random *rand.Rand, count int) impl.Store {
	var s impl.Store
	known := random.Intn(3)
	for range count {
		from := random.Intn(12)
		s.Facts = append(s.Facts, fact(1+random.Intn(2), from, from+1+random.Intn(6), known, random.Intn(3)))
		known += random.Intn(3)
	}
	return s
}

func TestRandomStores(t *testing.T) {
	random := rand.New(rand.NewSource(5))
	for range 150 {
		s := randomStore(random, random.Intn(12))
		for key := range 4 {
			for known := -1; known < 26; known++ {
				for m := -1; m < 20; m++ {
					want, wantOk := lastValue(s, key, m, known)
					if got, ok := impl.ValueAt(s, key, m, known); got != want || ok != wantOk {
						t.Errorf("ValueAt(%v, %d, %d, %d) = %d, %v, want %d, %v", s, key, m, known, got, ok, want, wantOk)
					}
				}
			}
		}
		a, b := random.Intn(26), random.Intn(26)
		var want []int
		for m := range 20 {
			before, was := lastValue(s, 1, m, a)
			after, is := lastValue(s, 1, m, b)
			if before != after || was != is {
				want = append(want, m)
			}
		}
		if got := impl.ChangedMonths(s, 1, a, b); !slices.Equal(got, want) {
			t.Errorf("ChangedMonths(%v, 1, %d, %d) = %v, want %v", s, a, b, got, want)
		}
	}
}

// TestPastIsKept checks the promise: what was known in a month stays, whatever becomes known later.
func TestPastIsKept(t *testing.T) {
	random := rand.New(rand.NewSource(55))
	for range 60 {
		s := randomStore(random, 1+random.Intn(8))
		last := s.Facts[len(s.Facts)-1].Known
		more := s
		for range 3 {
			from := random.Intn(12)
			f := fact(1+random.Intn(2), from, from+1+random.Intn(6), last+1+random.Intn(2), 3+random.Intn(3))
			last = f.Known
			larger, ok := impl.AddFact(more, f)
			if !ok || !sameStore(impl.StoreAsOf(larger, f.Known-1), impl.StoreAsOf(more, f.Known-1)) {
				t.Fatalf("AddFact(%v, %v) = %v, %v", more, f, larger, ok)
			}
			checkKept(t, more, larger, f)
			more = larger
		}
	}
}

// checkKept compares a store with the one to which f was added, as known before f and in its month.
func checkKept(t *testing.T, s impl.Store, larger impl.Store, f impl.Fact) {
	t.Helper()
	for m := range 20 {
		for key := 1; key <= 2; key++ {
			for known := range f.Known {
				want, wantOk := impl.ValueAt(s, key, m, known)
				got, ok := impl.ValueAt(larger, key, m, known)
				past, pastOk := impl.ValueAt(impl.StoreAsOf(larger, known), key, m, impl.MaxMonth)
				if got != want || ok != wantOk || past != want || pastOk != wantOk {
					t.Errorf("with %v, the value of %d in %d known in %d becomes %d, %v after %d, %v", f, key, m, known, got, ok, want, wantOk)
				}
			}
			want, wantOk := impl.ValueAt(s, key, m, f.Known)
			if key == f.Key && f.From <= m && m < f.To {
				want, wantOk = f.Value, true
			}
			if got, ok := impl.ValueAt(larger, key, m, f.Known); got != want || ok != wantOk {
				t.Errorf("with %v, the value of %d in %d is %d, %v, want %d, %v", f, key, m, got, ok, want, wantOk)
			}
		}
	}
	if got := impl.ChangedMonths(larger, f.Key, 0, f.Known-1); !slices.Equal(got, impl.ChangedMonths(s, f.Key, 0, f.Known-1)) {
		t.Errorf("with %v, the months that changed before it are %v", f, got)
	}
}

// withSpare returns a store whose slice has room behind it, filled with a mark.
func withSpare(s impl.Store) impl.Store {
	facts := make([]impl.Fact, len(s.Facts), len(s.Facts)+4)
	copy(facts, s.Facts)
	room := facts[len(facts):cap(facts)]
	for i := range room {
		room[i] = fact(-1, -2, -3, -4, -5)
	}
	return impl.Store{Facts: facts}
}

// isWithSpare reports whether s and the room behind it are as withSpare made them.
func isWithSpare(s impl.Store, of impl.Store) bool {
	whole := s.Facts[:cap(s.Facts)]
	want := withSpare(of)
	return slices.Equal(whole, want.Facts[:cap(want.Facts)])
}

// overwrite changes a store, the room behind it and what is appended to it.
func overwrite(s impl.Store) {
	whole := append(s.Facts[:cap(s.Facts)], impl.Fact{Key: 99})
	for _, facts := range [][]impl.Fact{s.Facts[:cap(s.Facts)], whole} {
		for i := range facts {
			facts[i] = fact(99, 98, 97, 96, 95)
		}
	}
}

func TestFactsShareNoMemory(t *testing.T) {
	last := fact(1, 0, 9, impl.MaxMonth, 1)
	operations := map[string]func(s impl.Store) impl.Store{
		"AddFact":              func(s impl.Store) impl.Store { got, _ := impl.AddFact(s, last); return got },
		"AddFact of no fact":   func(s impl.Store) impl.Store { got, _ := impl.AddFact(s, impl.Fact{}); return got },
		"AddFact of early one": func(s impl.Store) impl.Store { got, _ := impl.AddFact(s, fact(1, 0, 1, 0, 0)); return got },
		"StoreAsOf":            func(s impl.Store) impl.Store { return impl.StoreAsOf(s, impl.MaxMonth) },
		"StoreAsOf of a part":  func(s impl.Store) impl.Store { return impl.StoreAsOf(s, 40) },
		"StoreAsOf of nothing": func(s impl.Store) impl.Store { return impl.StoreAsOf(s, -1) },
		"the functions that return no store": func(s impl.Store) impl.Store {
			impl.StoreOk(s)
			impl.ValueAt(s, 1, 5, 40)
			impl.ChangedMonths(s, 1, 3, 40)
			return impl.Store{}
		},
	}
	for name, operation := range operations {
		for _, s := range []impl.Store{
			{},
			storeOf(knownFacts(3, 8)...),
			storeOf(knownFacts(8, 3)...),
			storeOf(manyFacts(impl.MaxFacts - 1)...),
			storeOf(manyFacts(impl.MaxFacts)...),
			storeOf(manyFacts(impl.MaxFacts + 1)...),
		} {
			given := withSpare(s)
			got := operation(given)
			if !isWithSpare(given, s) {
				t.Errorf("%s changes its argument %v", name, s)
			}
			want := slices.Clone(got.Facts)
			overwrite(given)
			if !slices.Equal(got.Facts, want) {
				t.Errorf("%s returns memory of its argument %v", name, s)
			}
			given = withSpare(s)
			overwrite(operation(given))
			if !isWithSpare(given, s) {
				t.Errorf("a change of the result of %s changes its argument %v", name, s)
			}
		}
	}
}
