package tests

import (
	"math"
	"math/big"
	"math/rand"
	"slices"
	"testing"

	"loop.example/g00980/impl"
)

// The limits of the chapter's arguments; the document names only the first one.
const (
	oldest         = 120
	certain        = 1000000
	mostPercent    = 100
	mostImproving  = 200
	greatestGroup  = 1000000000
	maxTableLength = 121
)

func table(first int, deaths ...int) impl.Table { return impl.Table{First: first, Deaths: deaths} }

// evenTable has the probability at all of its ages except the last one.
func evenTable(first int, count int, probability int) impl.Table {
	return table(first, append(repeated(probability, count-1), certain)...)
}

type namedTable struct {
	name  string
	table impl.Table
}

func validTables() []namedTable {
	rising, falling := evenTable(0, maxTableLength, 0), evenTable(0, maxTableLength, 0)
	for i := range maxTableLength - 1 {
		rising.Deaths[i] = i * i * 69
		falling.Deaths[i] = (maxTableLength - i) * 8003
	}
	return []namedTable{
		{"the document's kind of table", table(60, 100000, 500000, certain)},
		{"one age, the first possible", table(0, certain)},
		{"one age in the middle", table(60, certain)},
		{"one age, the last possible", table(oldest, certain)},
		{"the last two ages", table(119, 7, certain)},
		{"all ages without death", evenTable(0, maxTableLength, 0)},
		{"all ages with certain death", evenTable(0, maxTableLength, certain)},
		{"all ages with the least probability", evenTable(0, maxTableLength, 1)},
		{"all ages with almost certain death", evenTable(0, maxTableLength, 999999)},
		{"all ages with a half", evenTable(0, maxTableLength, 500000)},
		{"all ages, rising", rising},
		{"all ages, falling", falling},
		{"first ages only", evenTable(0, 5, 12345)},
		{"last ages only", evenTable(100, 21, 98765)},
		{"middle ages", table(50, 0, 333333, 1, 999999, 0, 250000, certain)},
		{"certain death in between", table(30, 10, certain, 0, 20, certain)},
		{"certain death twice at the end", table(30, 10, certain, certain)},
		{"from age 1 to the last", evenTable(1, 120, 15000)},
	}
}

func noProbabilities() []int {
	return []int{-1, 1000001, -1000000, 2000000, math.MinInt, math.MaxInt, 1 << 32, 1<<32 + 1000000, -1 << 32, 1 << 62, 1000000 - 1<<32}
}

func noAges() []int {
	return []int{-1, 121, -2, 122, -120, 200, 1000, math.MinInt, math.MinInt + 1, math.MaxInt, math.MaxInt - 1, math.MaxInt - 119, math.MinInt + 60, 1 << 32, 1<<32 + 60, -1 << 32, 60 - 1<<32}
}

func invalidTables() []namedTable {
	list := []namedTable{
		{"nothing", impl.Table{}},
		{"no deaths", table(60)},
		{"empty deaths with room", impl.Table{First: 60, Deaths: make([]int, 0, 9)}},
		{"122 deaths", evenTable(0, 122, 5)},
		{"122 deaths before the first age", evenTable(-1, 122, 5)},
		{"many deaths", evenTable(0, 1000, 5)},
		{"past the last age from 1", evenTable(1, 121, 5)},
		{"past the last age from 60", evenTable(60, 62, 5)},
		{"past the last age from 119", table(119, 5, 6, certain)},
		{"past the last age from 120", table(120, 5, certain)},
		{"last element of 999999", table(60, 5, 999999)},
		{"only element of 999999", table(60, 999999)},
		{"only element of 0", table(60, 0)},
		{"last element of 0 after a certain one", table(60, certain, 0)},
		{"last element of 999999 at the last age", table(119, certain, 999999)},
		{"last element of 999999 of all ages", table(0, append(repeated(certain, 120), 999999)...)},
	}
	for _, first := range noAges() {
		list = append(list, namedTable{"First outside the ages", table(first, 5, certain)},
			namedTable{"First outside the ages, one element", table(first, certain)})
	}
	for _, n := range noProbabilities() {
		list = append(list, namedTable{"first element", table(60, n, 5, 6, certain)},
			namedTable{"middle element", table(60, 5, n, 6, certain)},
			namedTable{"element before the last", table(60, 5, 6, n, certain)},
			namedTable{"last element", table(60, 5, 6, 7, n)},
			namedTable{"only element", table(60, n)},
			namedTable{"first of all ages", table(0, append([]int{n}, evenTable(0, 120, 9).Deaths...)...)})
	}
	return list
}

// tableValid follows the sentence of the document word by word.
func tableValid(t impl.Table) bool {
	if t.First < 0 || t.First > 120 || len(t.Deaths) == 0 || len(t.Deaths) > 121 || t.First+len(t.Deaths) > 121 {
		return false
	}
	for _, n := range t.Deaths {
		if n < 0 || n > 1000000 {
			return false
		}
	}
	return t.Deaths[len(t.Deaths)-1] == 1000000
}

// wantedDeath looks for the age among the ages of the table.
func wantedDeath(t impl.Table, age int) int {
	if tableValid(t) {
		for i, probability := range t.Deaths {
			if t.First+i == age {
				return probability
			}
		}
	}
	return 1000000
}

func wantedImproved(t impl.Table, percent int, years int) impl.Table {
	improved := impl.Table{First: t.First, Deaths: slices.Clone(t.Deaths)}
	if !tableValid(t) || percent < 0 || percent > 100 || years < 0 || years > 200 {
		return improved
	}
	for i := range improved.Deaths[1:] {
		value := big.NewInt(int64(t.Deaths[i]))
		for range years {
			value.Mul(value, big.NewInt(int64(100-percent)))
			value.Div(value, big.NewInt(100))
		}
		improved.Deaths[i] = int(value.Int64())
	}
	return improved
}

// wantedSurvivors rounds by the remainder of a division of unlimited numbers.
func wantedSurvivors(t impl.Table, age int, years int, start int) []int {
	if !tableValid(t) || age < 0 || age > 120 || years < 0 || years > 120 || start < 0 || start > 1000000000 {
		return nil
	}
	list := []int{start}
	alive, million := big.NewInt(int64(start)), big.NewInt(1000000)
	for y := 0; y < years; y++ {
		product := new(big.Int).Mul(alive, big.NewInt(int64(wantedDeath(t, age+y))))
		deaths, rest := new(big.Int).DivMod(product, million, new(big.Int))
		if rest.Add(rest, rest).Cmp(million) >= 0 {
			deaths.Add(deaths, big.NewInt(1))
		}
		alive = new(big.Int).Sub(alive, deaths)
		list = append(list, int(alive.Int64()))
	}
	return list
}

func wantedExpectancy(t impl.Table, age int) int {
	list := wantedSurvivors(t, age, 120, 1000000)
	if list == nil {
		return 0
	}
	return sumOf(list[1:]) / 1000000
}

func sameTable(a impl.Table, b impl.Table) bool {
	return a.First == b.First && slices.Equal(a.Deaths, b.Deaths)
}

func checkImproved(t *testing.T, name string, m impl.Table, percent int, years int) {
	t.Helper()
	if got, want := impl.Improve(m, percent, years), wantedImproved(m, percent, years); !sameTable(got, want) {
		t.Errorf("%s: Improve(%v, %d, %d) = %v, want %v", name, m, percent, years, got, want)
	}
}

func checkSurvivors(t *testing.T, name string, m impl.Table, age int, years int, start int) {
	t.Helper()
	got, want := impl.Survivors(m, age, years, start), wantedSurvivors(m, age, years, start)
	if !slices.Equal(got, want) {
		t.Errorf("%s: Survivors(%v, %d, %d, %d) = %v, want %v", name, m, age, years, start, got, want)
	}
	checkNeverMore(t, name, got)
}

// checkNeverMore checks the promise of the chapter, and that there are no fewer than no survivors.
func checkNeverMore(t *testing.T, name string, survivors []int) {
	t.Helper()
	for y, alive := range survivors {
		if alive < 0 || y > 0 && alive > survivors[y-1] {
			t.Errorf("%s: element %d of the survivors %v is negative or more than the one before", name, y, survivors)
		}
	}
}

func TestMaxAge(t *testing.T) {
	if impl.MaxAge != oldest {
		t.Errorf("MaxAge = %d, want %d", impl.MaxAge, oldest)
	}
}

func TestTableOk(t *testing.T) {
	for _, c := range validTables() {
		if !impl.TableOk(c.table) || !tableValid(c.table) {
			t.Errorf("%s: TableOk(%v) is false", c.name, c.table)
		}
	}
	for _, c := range invalidTables() {
		if impl.TableOk(c.table) || tableValid(c.table) {
			t.Errorf("%s: TableOk(%v) is true", c.name, c.table)
		}
	}
}

func TestTableOkLimits(t *testing.T) {
	for _, c := range []struct {
		name  string
		table impl.Table
		want  bool
	}{
		{"First 0", table(0, 5, certain), true},
		{"First -1", table(-1, 5, certain), false},
		{"First 120", table(120, certain), true},
		{"First 121", table(121, certain), false},
		{"First 121 and no deaths", table(121), false},
		{"no deaths, nil", impl.Table{First: 0}, false},
		{"no deaths, empty", impl.Table{First: 0, Deaths: []int{}}, false},
		{"one", table(0, certain), true},
		{"121 deaths", evenTable(0, 121, 5), true},
		{"122 deaths", evenTable(0, 122, 5), false},
		{"First 60 and 61 deaths", evenTable(60, 61, 5), true},
		{"First 60 and 62 deaths", evenTable(60, 62, 5), false},
		{"First 1 and 120 deaths", evenTable(1, 120, 5), true},
		{"First 1 and 121 deaths", evenTable(1, 121, 5), false},
		{"First 120 and two deaths", table(120, 5, certain), false},
		{"0 first", table(60, 0, 5, certain), true},
		{"1000000 first", table(60, 1000000, 5, certain), true},
		{"-1 first", table(60, -1, 5, certain), false},
		{"1000001 first", table(60, 1000001, 5, certain), false},
		{"0 in the middle", table(60, 5, 0, certain), true},
		{"1000000 in the middle", table(60, 5, 1000000, certain), true},
		{"-1 in the middle", table(60, 5, -1, certain), false},
		{"1000001 in the middle", table(60, 5, 1000001, certain), false},
		{"0 last", table(60, 5, 6, 0), false},
		{"1000000 last", table(60, 5, 6, 1000000), true},
		{"-1 last", table(60, 5, 6, -1), false},
		{"1000001 last", table(60, 5, 6, 1000001), false},
		{"999999 last", table(60, 5, 6, 999999), false},
	} {
		if got := impl.TableOk(c.table); got != c.want {
			t.Errorf("%s: TableOk(%v) = %t", c.name, c.table, got)
		}
	}
}

func TestTableOkEveryRange(t *testing.T) {
	for first := -3; first <= 124; first++ {
		for count := 1; count <= 124; count++ {
			m := evenTable(first, count, 1000)
			if got, want := impl.TableOk(m), first >= 0 && first+count <= 121; got != want {
				t.Errorf("TableOk of %d deaths from %d = %t", count, first, got)
			}
		}
	}
}

func TestTableOkEveryPlace(t *testing.T) {
	for _, c := range validTables() {
		last := len(c.table.Deaths) - 1
		for i := range c.table.Deaths {
			for _, n := range append(noProbabilities(), 0, 1, 500000, 999999, 1000000) {
				m := impl.Table{First: c.table.First, Deaths: slices.Clone(c.table.Deaths)}
				m.Deaths[i] = n
				want := 0 <= n && n <= 1000000 && (i < last || n == 1000000)
				if got := impl.TableOk(m); got != want {
					t.Errorf("%s: with %d at %d, TableOk = %t", c.name, n, i, got)
				}
			}
		}
	}
}

func TestDeathAt(t *testing.T) {
	m := table(60, 100000, 500000, 0, 7, certain)
	short := table(120, certain)
	whole := evenTable(0, maxTableLength, 4)
	for _, c := range []struct {
		name  string
		table impl.Table
		age   int
		want  int
	}{
		{"before First", m, 59, 1000000},
		{"at First", m, 60, 100000},
		{"second age", m, 61, 500000},
		{"without death", m, 62, 0},
		{"before the last age", m, 63, 7},
		{"at the last age", m, 64, 1000000},
		{"behind the last age", m, 65, 1000000},
		{"age 0", m, 0, 1000000},
		{"index of an element", m, 2, 1000000},
		{"negative age", m, -1, 1000000},
		{"negative index", m, -60, 1000000},
		{"at MaxAge", m, 120, 1000000},
		{"above MaxAge", m, 121, 1000000},
		{"least int", m, math.MinInt, 1000000},
		{"least int, from 120", short, math.MinInt, 1000000},
		{"greatest int", m, math.MaxInt, 1000000},
		{"wraps to the second age", m, 1<<32 + 61, 1000000},
		{"wraps to the second age from below", m, 61 - 1<<32, 1000000},
		{"all ages, the first", whole, 0, 4},
		{"all ages, before the last", whole, 119, 4},
		{"all ages, the last", whole, 120, 1000000},
		{"all ages, before", whole, -1, 1000000},
		{"all ages, behind", whole, 121, 1000000},
		{"First is not valid", table(-1, 4, certain), -1, 1000000},
		{"First is not valid, in its ages", table(-1, 4, 5, certain), 0, 1000000},
		{"an element is not valid", table(60, 4, -1, certain), 60, 1000000},
		{"an element is not valid, at it", table(60, 4, -1, certain), 61, 1000000},
		{"the last element is not 1000000", table(60, 4, 5), 60, 1000000},
		{"too many elements", evenTable(60, 62, 4), 60, 1000000},
		{"no elements", table(60), 60, 1000000},
	} {
		if got := impl.DeathAt(c.table, c.age); got != c.want {
			t.Errorf("%s: DeathAt(%v, %d) = %d, want %d", c.name, c.table, c.age, got, c.want)
		}
	}
}

func TestDeathAtEveryAge(t *testing.T) {
	for _, c := range validTables() {
		for age := -130; age <= 250; age++ {
			got := impl.DeathAt(c.table, age)
			if want := wantedDeath(c.table, age); got != want {
				t.Errorf("%s: DeathAt(%d) = %d, want %d", c.name, age, got, want)
			}
			if outside := age < c.table.First || age >= c.table.First+len(c.table.Deaths); outside && got != certain {
				t.Errorf("%s: DeathAt(%d) = %d, outside the table", c.name, age, got)
			}
		}
		for _, age := range noAges() {
			if got := impl.DeathAt(c.table, age); got != certain {
				t.Errorf("%s: DeathAt(%d) = %d, want certain death", c.name, age, got)
			}
		}
	}
}

func TestDeathAtInvalid(t *testing.T) {
	for _, c := range invalidTables() {
		for _, age := range append(noAges(), 0, 1, 59, 60, 61, 62, 63, 64, 119, 120, c.table.First, c.table.First+1) {
			if got := impl.DeathAt(c.table, age); got != certain {
				t.Errorf("%s: DeathAt(%v, %d) = %d, want certain death", c.name, c.table, age, got)
			}
		}
	}
}

func TestImprove(t *testing.T) {
	m := table(60, 100000, 500000, 0, certain, certain)
	for _, c := range []struct {
		name    string
		table   impl.Table
		percent int
		years   int
		want    []int
	}{
		{"one year", m, 10, 1, []int{90000, 450000, 0, 900000, certain}},
		{"two years", m, 10, 2, []int{81000, 405000, 0, 810000, certain}},
		{"0 percent", m, 0, 1, m.Deaths},
		{"0 percent in 200 years", m, 0, 200, m.Deaths},
		{"0 years", m, 10, 0, m.Deaths},
		{"0 years of 100 percent", m, 100, 0, m.Deaths},
		{"100 percent", m, 100, 1, []int{0, 0, 0, 0, certain}},
		{"100 percent in 200 years", m, 100, 200, []int{0, 0, 0, 0, certain}},
		{"99 percent", m, 99, 1, []int{1000, 5000, 0, 10000, certain}},
		{"200 years of 1 percent", table(60, 100, 1000000, certain), 1, 200, []int{0, 133935, certain}},
		{"percent -1", m, -1, 1, m.Deaths},
		{"percent 101", m, 101, 1, m.Deaths},
		{"years -1", m, 10, -1, m.Deaths},
		{"years 201", m, 10, 201, m.Deaths},
		{"one element", table(60, certain), 50, 7, []int{certain}},
		{"one element, 100 percent", table(120, certain), 100, 200, []int{certain}},
		{"rounded down", table(60, 1, 9, 10, 11, 19, 99, certain), 10, 1, []int{0, 8, 9, 9, 17, 89, certain}},
		{"rounded down by 1 percent", table(60, 1, 99, 100, 101, 199, 999999, certain), 1, 1, []int{0, 98, 99, 99, 197, 989999, certain}},
		// 15*0.9*0.9*0.9 is 10.935, and 7*0.5*0.5 is 1.75.
		{"each year anew", table(60, 15, certain), 10, 3, []int{9, certain}},
		{"each half anew", table(60, 7, certain), 50, 2, []int{1, certain}},
		// The percent are not added up: 1000000*0.9*0.9 is not 1000000*0.8.
		{"one year after the other", table(60, certain, certain), 10, 2, []int{810000, certain}},
		{"an element is not valid", table(60, 100, 1000001, certain), 10, 1, []int{100, 1000001, certain}},
		{"the last is not 1000000", table(60, 100, 999999), 10, 1, []int{100, 999999}},
		{"First is not valid", table(-1, 100, certain), 10, 1, []int{100, certain}},
		{"no elements", table(60), 10, 1, nil},
	} {
		got := impl.Improve(c.table, c.percent, c.years)
		if got.First != c.table.First || !slices.Equal(got.Deaths, c.want) {
			t.Errorf("%s: Improve(%v, %d, %d) = %v, want %v", c.name, c.table, c.percent, c.years, got, c.want)
		}
	}
}

func TestImproveEveryPercent(t *testing.T) {
	for _, c := range validTables() {
		for percent := -2; percent <= mostPercent+2; percent++ {
			for _, years := range []int{-1, 0, 1, 2, 3, 17, 199, mostImproving, mostImproving + 1} {
				checkImproved(t, c.name, c.table, percent, years)
			}
		}
	}
}

func TestImproveEveryYear(t *testing.T) {
	m := table(20, 999999, 100001, 12345, 999, 99, 1, 0, certain, certain)
	for years := -2; years <= mostImproving+2; years++ {
		for _, percent := range []int{-1, 0, 1, 2, 33, 50, 99, mostPercent, mostPercent + 1} {
			checkImproved(t, "every year", m, percent, years)
		}
	}
}

// TestImproveLowers checks that an improved table is valid, has no greater probability, the same last
// one and the same ages, and that years can be taken one after the other.
func TestImproveLowers(t *testing.T) {
	for _, c := range validTables() {
		last := len(c.table.Deaths) - 1
		for _, percent := range []int{0, 1, 7, 50, 99, 100} {
			step := c.table
			for years := range 30 {
				improved := impl.Improve(c.table, percent, years)
				if !impl.TableOk(improved) || improved.First != c.table.First || improved.Deaths[last] != certain {
					t.Fatalf("%s: Improve(%d, %d) = %v", c.name, percent, years, improved)
				}
				if !sameTable(improved, step) {
					t.Errorf("%s: Improve(%d, %d) = %v, want %v", c.name, percent, years, improved, step)
				}
				step = impl.Improve(improved, percent, 1)
				for i := range last {
					if step.Deaths[i] > improved.Deaths[i] {
						t.Errorf("%s: year %d of %d percent raises element %d", c.name, years, percent, i)
					}
				}
			}
		}
	}
}

func noPercents() []int {
	return []int{-1, 101, -100, 200, math.MinInt, math.MaxInt, 1 << 32, 1<<32 + 10, 10 - 1<<32}
}

func noImprovingYears() []int {
	return []int{-1, 201, -200, 1000, math.MinInt, math.MaxInt, 1 << 32, 1<<32 + 1, 1 - 1<<32}
}

func TestImproveInvalid(t *testing.T) {
	for _, c := range invalidTables() {
		for _, percent := range append(noPercents(), 0, 10, 100) {
			for _, years := range append(noImprovingYears(), 0, 1, 200) {
				if got := impl.Improve(c.table, percent, years); !sameTable(got, c.table) {
					t.Errorf("%s: Improve(%v, %d, %d) = %v", c.name, c.table, percent, years, got)
				}
			}
		}
	}
	for _, c := range validTables() {
		for _, percent := range append(noPercents(), 10, 100) {
			for _, years := range append(noImprovingYears(), 1, 200) {
				valid := !slices.Contains(noPercents(), percent) && !slices.Contains(noImprovingYears(), years)
				if got := impl.Improve(c.table, percent, years); !valid && !sameTable(got, c.table) {
					t.Errorf("%s: Improve(%d, %d) = %v, want it unchanged", c.name, percent, years, got)
				}
			}
		}
	}
}

func TestSurvivors(t *testing.T) {
	m := table(60, 100000, 500000, certain)
	none := evenTable(0, maxTableLength, 0)
	for _, c := range []struct {
		name  string
		table impl.Table
		age   int
		years int
		start int
		want  []int
	}{
		{"three years", m, 60, 3, 1000, []int{1000, 900, 450, 0}},
		{"behind the table too", m, 60, 5, 1000, []int{1000, 900, 450, 0, 0, 0}},
		{"from the second age", m, 61, 2, 1000, []int{1000, 500, 0}},
		{"from the last age", m, 62, 2, 1000, []int{1000, 0, 0}},
		{"from behind the table", m, 63, 2, 1000, []int{1000, 0, 0}},
		{"from before the table", m, 59, 2, 1000, []int{1000, 0, 0}},
		{"no years", m, 60, 0, 1000, []int{1000}},
		{"no years before the table", m, 0, 0, 1000, []int{1000}},
		{"one year", m, 60, 1, 1000, []int{1000, 900}},
		{"nobody", m, 60, 2, 0, []int{0, 0, 0}},
		{"one person, of whom 0.1 dies", m, 60, 2, 1, []int{1, 1, 0}},
		{"the greatest group", m, 60, 2, 1000000000, []int{1000000000, 900000000, 450000000}},
		{"the greatest group and the least probability", evenTable(0, 3, 1), 0, 2, 1000000000, []int{1000000000, 999999000, 999998000}},
		{"age 0", none, 0, 2, 5, []int{5, 5, 5}},
		{"age 0 and 120 years", none, 0, 120, 5, repeated(5, 121)},
		{"age 1 and 120 years", none, 1, 120, 5, append(repeated(5, 120), 0)},
		{"MaxAge", none, 120, 1, 5, []int{5, 0}},
		{"MaxAge and 120 years", none, 120, 120, 5, append([]int{5}, repeated(0, 120)...)},
		{"MaxAge outside the table", m, 120, 1, 5, []int{5, 0}},
		{"before MaxAge", none, 119, 3, 5, []int{5, 5, 0, 0}},
		{"age -1", none, -1, 1, 5, nil},
		{"age 121", none, 121, 1, 5, nil},
		{"years -1", none, 60, -1, 5, nil},
		{"years 121", none, 0, 121, 5, nil},
		{"start -1", none, 60, 1, -1, nil},
		{"start 1000000001", none, 60, 1, 1000000001, nil},
		{"table is not valid", table(60, 5, 999999), 60, 1, 5, nil},
		// 0.5 of one person is a death, and 0.499999 is none.
		{"exactly one half", table(60, 500000, certain), 60, 1, 1, []int{1, 0}},
		{"almost one half", table(60, 499999, certain), 60, 1, 1, []int{1, 1}},
		{"more than one half", table(60, 500001, certain), 60, 1, 1, []int{1, 0}},
		{"2.5 deaths", table(60, 250000, certain), 60, 1, 10, []int{10, 7}},
		{"3.5 deaths", table(60, 500000, certain), 60, 1, 7, []int{7, 3}},
		{"2.499998 deaths", table(60, 249999, 0, certain), 60, 1, 10, []int{10, 8}},
		{"3.333330 deaths", table(60, 333333, certain), 60, 1, 10, []int{10, 7}},
		{"6.666670 deaths", table(60, 666667, certain), 60, 1, 10, []int{10, 3}},
		{"0.999999 deaths", table(60, 999999, certain), 60, 1, 1, []int{1, 0}},
		{"half a death in a million", table(60, 1, 1, certain), 60, 2, 500000, []int{500000, 499999, 499999}},
		{"halves again and again", table(60, 500000, 500000, 500000, 500000, 0, certain), 60, 6, 15, []int{15, 7, 3, 1, 0, 0, 0}},
		{"without death for one year", table(60, 0, 500000, 0, certain), 60, 4, 9, []int{9, 9, 4, 4, 0}},
	} {
		got := impl.Survivors(c.table, c.age, c.years, c.start)
		if !slices.Equal(got, c.want) {
			t.Errorf("%s: Survivors(%v, %d, %d, %d) = %v, want %v", c.name, c.table, c.age, c.years, c.start, got, c.want)
		}
		checkNeverMore(t, c.name, got)
	}
}

func groups() []int {
	return []int{0, 1, 2, 3, 7, 1000, 499999, 500000, 1000000, 999999999, greatestGroup}
}

func TestSurvivorsEveryAge(t *testing.T) {
	for _, c := range validTables() {
		for age := range oldest + 1 {
			for _, start := range groups() {
				checkSurvivors(t, c.name, c.table, age, oldest, start)
			}
			checkSurvivors(t, c.name, c.table, age, age, 1000003)
		}
	}
}

func TestSurvivorsEveryYear(t *testing.T) {
	for _, c := range validTables() {
		for years := range oldest + 1 {
			for _, age := range []int{0, 1, 59, 60, 61, 119, 120} {
				checkSurvivors(t, c.name, c.table, age, years, 123457)
			}
		}
	}
}

// TestSurvivorsEveryProbability has each kind of remainder for small groups.
func TestSurvivorsEveryProbability(t *testing.T) {
	for start := range 60 {
		for probability := 0; probability <= certain; probability += 12500 {
			for _, nearly := range []int{probability - 1, probability, probability + 1} {
				if nearly >= 0 && nearly <= certain {
					checkSurvivors(t, "small group", table(5, nearly, nearly, certain), 5, 3, start)
				}
			}
		}
	}
}

// TestSurvivorsInParts takes the years of a group in two parts, the second with those who survived the
// first.
func TestSurvivorsInParts(t *testing.T) {
	for _, c := range validTables() {
		for _, age := range []int{0, 30, 58, 60, 61, 100} {
			whole := impl.Survivors(c.table, age, 20, 1000003)
			for years := range 21 {
				first := impl.Survivors(c.table, age, years, 1000003)
				second := impl.Survivors(c.table, age+years, 20-years, first[years])
				if joined := append(first, second[1:]...); !slices.Equal(joined, whole) {
					t.Errorf("%s: the parts from age %d with %d years are %v, want %v", c.name, age, years, joined, whole)
				}
			}
		}
	}
}

func TestSurvivorsOutsideTheTable(t *testing.T) {
	for _, c := range validTables() {
		for age := range oldest + 1 {
			outside := age < c.table.First || age >= c.table.First+len(c.table.Deaths)
			got := impl.Survivors(c.table, age, 2, 1000)
			if outside && (!slices.Equal(got, []int{1000, 0, 0}) || impl.LifeExpectancy(c.table, age) != 0) {
				t.Errorf("%s: somebody of age %d survives: %v", c.name, age, got)
			}
		}
	}
}

// TestImprovedSurvivors checks that an improved table has at least as many survivors in each year, and
// no smaller life expectancy.
func TestImprovedSurvivors(t *testing.T) {
	for _, c := range validTables() {
		for _, percent := range []int{0, 1, 10, 50, 100} {
			before := c.table
			for _, years := range []int{0, 1, 2, 40, 200} {
				improved := impl.Improve(c.table, percent, years)
				for _, age := range []int{0, 1, 29, 30, 59, 60, 61, 100, 118, 119, 120} {
					checkAtLeastAsMany(t, c.name, before, improved, age)
				}
				before = improved
			}
		}
	}
}

func checkAtLeastAsMany(t *testing.T, name string, before impl.Table, improved impl.Table, age int) {
	t.Helper()
	for _, start := range []int{1, 3, 999, 1000003, greatestGroup} {
		fewer, more := impl.Survivors(before, age, oldest, start), impl.Survivors(improved, age, oldest, start)
		for y := range fewer {
			if more[y] < fewer[y] {
				t.Errorf("%s: after the improvement, %d of %d survive for %d years, before %d", name, more[y], start, y, fewer[y])
			}
		}
	}
	if got, least := impl.LifeExpectancy(improved, age), impl.LifeExpectancy(before, age); got < least {
		t.Errorf("%s: after the improvement, the life expectancy of age %d is %d, before %d", name, age, got, least)
	}
}

func randomTable(random *rand.Rand) impl.Table {
	first := random.Intn(oldest + 1)
	deaths := make([]int, 1+random.Intn(maxTableLength-first))
	most := []int{2, 100, 10000, 100000, certain + 1}[random.Intn(5)]
	for i := range deaths {
		deaths[i] = random.Intn(most)
	}
	deaths[len(deaths)-1] = certain
	return table(first, deaths...)
}

func TestMortalityRandom(t *testing.T) {
	random := rand.New(rand.NewSource(15))
	for range 3000 {
		m := randomTable(random)
		age := m.First + random.Intn(oldest+1-m.First)
		if !impl.TableOk(m) {
			t.Errorf("TableOk(%v) is false", m)
		}
		start := random.Intn([]int{10, 1000, greatestGroup + 1}[random.Intn(3)])
		checkSurvivors(t, "random", m, age, random.Intn(oldest+1), start)
		checkSurvivors(t, "random", m, random.Intn(oldest+1), oldest, start)
		checkExpectancy(t, "random", m, age)
		percent, years := random.Intn(mostPercent+1), random.Intn(mostImproving+1)
		checkImproved(t, "random", m, percent, years)
		checkImproved(t, "random", m, percent/20, years/20)
		checkSurvivors(t, "random", impl.Improve(m, percent, years), age, 20, start)
	}
}

func noGroups() []int {
	return []int{-1, 1000000001, -1000000000, math.MinInt, math.MaxInt, 1 << 32, 1<<32 + 1000, 1000 - 1<<32, 1 << 44}
}

func TestSurvivorsInvalid(t *testing.T) {
	noYears := noAges()
	for _, c := range invalidTables() {
		for _, age := range append(noAges(), 0, 60, 120) {
			for _, years := range []int{-1, 0, 1, 120, 121} {
				for _, start := range []int{-1, 0, 1000, greatestGroup, greatestGroup + 1} {
					if got := impl.Survivors(c.table, age, years, start); len(got) != 0 {
						t.Errorf("%s: Survivors(%v, %d, %d, %d) = %v, want nil", c.name, c.table, age, years, start, got)
					}
				}
			}
		}
	}
	for _, c := range validTables() {
		for _, age := range append(noAges(), 0, 60, 120) {
			for _, years := range append(noYears, 0, 1, 120) {
				for _, start := range append(noGroups(), 0, 1000, greatestGroup) {
					valid := !slices.Contains(noAges(), age) && !slices.Contains(noYears, years) && !slices.Contains(noGroups(), start)
					got := impl.Survivors(c.table, age, years, start)
					if valid && (len(got) != years+1 || got[0] != start) || !valid && len(got) != 0 {
						t.Errorf("%s: Survivors(%d, %d, %d) = %v", c.name, age, years, start, got)
					}
				}
			}
		}
	}
}

func checkExpectancy(t *testing.T, name string, m impl.Table, age int) {
	t.Helper()
	if got, want := impl.LifeExpectancy(m, age), wantedExpectancy(m, age); got != want {
		t.Errorf("%s: LifeExpectancy(%v, %d) = %d, want %d", name, m, age, got, want)
	}
}

func TestLifeExpectancy(t *testing.T) {
	m := table(60, 100000, 500000, certain)
	none, sure := evenTable(0, maxTableLength, 0), evenTable(0, maxTableLength, certain)
	least := evenTable(0, maxTableLength, 1)
	for _, c := range []struct {
		name  string
		table impl.Table
		age   int
		want  int
	}{
		// 900000 and 450000 are alive after one year and after two.
		{"1.35 years", m, 60, 1},
		{"0.5 years", m, 61, 0},
		{"the last age", m, 62, 0},
		{"behind the table", m, 63, 0},
		{"before the table", m, 59, 0},
		{"age 0 before the table", m, 0, 0},
		{"MaxAge behind the table", m, 120, 0},
		{"exactly one year", table(60, 0, certain), 60, 1},
		{"almost one year", table(60, 1, certain), 60, 0},
		{"exactly two years", table(60, 0, 0, certain), 60, 2},
		{"two halves", table(60, 500000, 0, certain), 60, 1},
		{"almost two years", table(60, 0, 1, certain), 60, 1},
		// Of 1000000 persons, 509345 and 490655 are alive, but of 2000000 only 1018690 and 981309.
		{"rounded for a group of 1000000", table(60, 490655, 36695, certain), 60, 1},
		{"without death from age 0", none, 0, 120},
		{"without death from age 1", none, 1, 119},
		{"without death from age 60", none, 60, 60},
		{"without death from age 119", none, 119, 1},
		{"without death from MaxAge", none, 120, 0},
		{"almost without death from age 0", least, 0, 119},
		{"almost without death from age 60", least, 60, 59},
		{"almost without death from age 119", least, 119, 0},
		{"certain death at age 0", sure, 0, 0},
		{"certain death at age 60", sure, 60, 0},
		{"certain death at MaxAge", sure, 120, 0},
		{"age -1", none, -1, 0},
		{"age 121", none, 121, 0},
		{"the last element is not 1000000", table(60, 0, 0, 0), 60, 0},
		{"an element is not valid", table(60, 0, 0, -1, certain), 60, 0},
		{"First is not valid", table(-1, 0, 0, 0, certain), 0, 0},
		{"no elements", table(60), 60, 0},
	} {
		if got := impl.LifeExpectancy(c.table, c.age); got != c.want {
			t.Errorf("%s: LifeExpectancy(%v, %d) = %d, want %d", c.name, c.table, c.age, got, c.want)
		}
	}
}

func TestLifeExpectancyEveryAge(t *testing.T) {
	for _, c := range validTables() {
		for age := -5; age <= oldest+5; age++ {
			checkExpectancy(t, c.name, c.table, age)
			for _, percent := range []int{1, 10, 100} {
				checkExpectancy(t, c.name, impl.Improve(c.table, percent, 15), age)
			}
		}
	}
}

func TestLifeExpectancyInvalid(t *testing.T) {
	for _, c := range invalidTables() {
		for _, age := range append(noAges(), 0, 1, 59, 60, 61, 119, 120) {
			if got := impl.LifeExpectancy(c.table, age); got != 0 {
				t.Errorf("%s: LifeExpectancy(%v, %d) = %d, want 0", c.name, c.table, age, got)
			}
		}
	}
	for _, c := range validTables() {
		for _, age := range noAges() {
			if got := impl.LifeExpectancy(c.table, age); got != 0 {
				t.Errorf("%s: LifeExpectancy(%d) = %d, want 0", c.name, age, got)
			}
		}
	}
}

// TestMortalitySharesNoMemory changes the memory of one result, with the room behind it, and of the
// argument, and looks at the other results.
func TestMortalitySharesNoMemory(t *testing.T) {
	const mark = -77
	for _, c := range slices.Concat(validTables(), invalidTables()) {
		for _, percent := range []int{0, 10, 100, -1, 101} {
			for _, years := range []int{0, 1, 200, -1, 201} {
				given := impl.Table{First: c.table.First, Deaths: withRoom(c.table.Deaths, mark)}
				one, other := impl.Improve(given, percent, years), impl.Improve(given, percent, years)
				overwriteAll(one.Deaths, mark-1)
				if !isWithRoom(given.Deaths, c.table.Deaths, mark) {
					t.Errorf("%s: Improve(%d, %d) or its result changes its argument to %v", c.name, percent, years, given)
				}
				overwriteAll(given.Deaths, mark)
				if want := wantedImproved(c.table, percent, years); !sameTable(other, want) {
					t.Errorf("%s: the table of Improve(%d, %d) changed to %v, want %v", c.name, percent, years, other, want)
				}
			}
		}
	}
}

func TestSurvivorsShareNoMemory(t *testing.T) {
	const mark = -77
	for _, c := range slices.Concat(validTables(), invalidTables()) {
		for _, age := range []int{-1, 0, 30, 60, 61, 119, 120, 121} {
			given := impl.Table{First: c.table.First, Deaths: withRoom(c.table.Deaths, mark)}
			one, other := impl.Survivors(given, age, 30, 1000), impl.Survivors(given, age, 30, 1000)
			impl.TableOk(given)
			impl.DeathAt(given, age)
			impl.LifeExpectancy(given, age)
			overwriteAll(one, mark-1)
			if !isWithRoom(given.Deaths, c.table.Deaths, mark) {
				t.Errorf("%s: a function for age %d or its result changes its argument to %v", c.name, age, given)
			}
			overwriteAll(given.Deaths, mark)
			if want := wantedSurvivors(c.table, age, 30, 1000); !slices.Equal(other, want) {
				t.Errorf("%s: the survivors of age %d changed to %v, want %v", c.name, age, other, want)
			}
		}
	}
}

// mortalityResults holds the results of all functions of the chapter, the slices as they are.
type mortalityResults struct {
	isOk       bool
	death      int
	improved   impl.Table
	survivors  []int
	expectancy int
}

func (r mortalityResults) equals(other mortalityResults) bool {
	return r.isOk == other.isOk && r.death == other.death && sameTable(r.improved, other.improved) &&
		slices.Equal(r.survivors, other.survivors) && r.expectancy == other.expectancy
}

// TestMortalityKeepsNothing calls the functions in other orders, with other arguments in between, and
// checks that the results are the same.
func TestMortalityKeepsNothing(t *testing.T) {
	tables := slices.Concat(validTables(), invalidTables())
	call := func(i int) mortalityResults {
		m, age := tables[i%len(tables)].table, i*7%(oldest+3)-1
		return mortalityResults{
			isOk:       impl.TableOk(m),
			death:      impl.DeathAt(m, age),
			improved:   impl.Improve(m, i%103-1, i%203-1),
			survivors:  impl.Survivors(m, age, i*11%(oldest+3)-1, i*1009),
			expectancy: impl.LifeExpectancy(m, age),
		}
	}
	const count = 3000
	var first []mortalityResults
	for i := range count {
		first = append(first, call(i))
	}
	for _, i := range rand.New(rand.NewSource(5)).Perm(count) {
		if got := call(i); !got.equals(first[i]) || !call(i).equals(got) {
			t.Errorf("call %d returns %v, and %v before", i, got, first[i])
		}
	}
}
