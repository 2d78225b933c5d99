package tests

import (
	"fmt"
	"math"
	"slices"
	"testing"

	"loop.example/g00980/impl"
)

// monthEnd is the greatest number that MonthsIn accepts, one after the last month.
const monthEnd = impl.MaxMonth + 1

type calendarMonth struct {
	year, month int
	text        string
}

// calendar holds all months, counted from the first one without a formula for the number.
func calendar() []calendarMonth {
	var list []calendarMonth
	for year := 1900; year < 2200; year++ {
		for month := 1; month <= 12; month++ {
			list = append(list, calendarMonth{year, month, fmt.Sprintf("%04d-%02d", year, month)})
		}
	}
	return list
}

// calendarNumbers holds the number of every text that denotes a month.
func calendarNumbers() map[string]int {
	numbers := map[string]int{}
	for m, c := range calendar() {
		numbers[c.text] = m
	}
	return numbers
}

func ageModes() []int { return []int{impl.AgDone, impl.AgNear, impl.AgNext} }

func noMonths() []int {
	return []int{-1, -2, -12, impl.MaxMonth + 1, impl.MaxMonth + 2, impl.MaxMonth + 12, 10000, 1 << 32, -1 << 32, math.MaxInt, math.MinInt}
}

func TestMonthConstants(t *testing.T) {
	got := append(ageModes(), impl.MaxMonth)
	if want := []int{1, 2, 3, 3599}; !slices.Equal(got, want) {
		t.Errorf("constants are %v, want %v", got, want)
	}
}

func TestMonthOk(t *testing.T) {
	for _, m := range []int{0, 1, 11, 12, 1047, impl.MaxMonth - 1, impl.MaxMonth} {
		if !impl.MonthOk(m) {
			t.Errorf("MonthOk(%d) = false", m)
		}
	}
	for _, m := range noMonths() {
		if impl.MonthOk(m) {
			t.Errorf("MonthOk(%d) = true", m)
		}
	}
}

// TestEveryMonth checks the promise: each month can be parsed from its text.
func TestEveryMonth(t *testing.T) {
	list := calendar()
	if len(list) != impl.MaxMonth+1 {
		t.Fatalf("the calendar has %d months", len(list))
	}
	for m, c := range list {
		if !impl.MonthOk(m) {
			t.Errorf("MonthOk(%d) = false", m)
		}
		if got := impl.MonthOf(c.year, c.month); got != m {
			t.Errorf("MonthOf(%d, %d) = %d, want %d", c.year, c.month, got, m)
		}
		if got := impl.MonthText(m); got != c.text {
			t.Errorf("MonthText(%d) = %q, want %q", m, got, c.text)
		}
		if got, ok := impl.ParseMonth(c.text); got != m || !ok {
			t.Errorf("ParseMonth(%q) = %d, %v, want %d, true", c.text, got, ok, m)
		}
	}
}

// TestNamedMonths does not depend on the calendar.
func TestNamedMonths(t *testing.T) {
	for _, c := range []struct {
		m, year, month int
		text           string
	}{
		{0, 1900, 1, "1900-01"},
		{1, 1900, 2, "1900-02"},
		{8, 1900, 9, "1900-09"},
		{9, 1900, 10, "1900-10"},
		{11, 1900, 12, "1900-12"},
		{12, 1901, 1, "1901-01"},
		{1047, 1987, 4, "1987-04"},
		{1199, 1999, 12, "1999-12"},
		{1200, 2000, 1, "2000-01"},
		{3587, 2198, 12, "2198-12"},
		{3588, 2199, 1, "2199-01"},
		{3598, 2199, 11, "2199-11"},
		{impl.MaxMonth, 2199, 12, "2199-12"},
	} {
		if got := impl.MonthOf(c.year, c.month); got != c.m {
			t.Errorf("MonthOf(%d, %d) = %d, want %d", c.year, c.month, got, c.m)
		}
		if got := impl.MonthText(c.m); got != c.text {
			t.Errorf("MonthText(%d) = %q, want %q", c.m, got, c.text)
		}
		if got, ok := impl.ParseMonth(c.text); got != c.m || !ok {
			t.Errorf("ParseMonth(%q) = %d, %v, want %d, true", c.text, got, ok, c.m)
		}
	}
}

func TestMonthOfInvalid(t *testing.T) {
	// With some of these years, twelve times the distance to 1900 wraps around to a small number.
	badYears := []int{
		1899, 2200, 0, 1, 99, -1, -1900, 1898, 2201, 3600, 9999, 10000, 1900 + 1<<32, 1900 - 1<<32,
		1900 + 1<<62, 1900 - 1<<62, 1905 + 1<<62, 1900 + 1<<61, 1900 + 1<<60, math.MaxInt, math.MinInt, math.MinInt + 1900,
	}
	badMonths := []int{0, 13, -1, -11, -12, 14, 24, 25, 256, 257, 1 + 1<<32, math.MaxInt, math.MinInt, math.MinInt + 1}
	for _, year := range badYears {
		for month := 1; month <= 12; month++ {
			if got := impl.MonthOf(year, month); got != -1 {
				t.Errorf("MonthOf(%d, %d) = %d, want -1", year, month, got)
			}
		}
	}
	for _, month := range badMonths {
		for _, year := range append(badYears, 1900, 1901, 1987, 2198, 2199) {
			if got := impl.MonthOf(year, month); got != -1 {
				t.Errorf("MonthOf(%d, %d) = %d, want -1", year, month, got)
			}
		}
	}
}

func TestMonthTextInvalid(t *testing.T) {
	for _, m := range noMonths() {
		if got := impl.MonthText(m); got != "" {
			t.Errorf("MonthText(%d) = %q, want none", m, got)
		}
	}
}

func TestParseMonthInvalid(t *testing.T) {
	for _, text := range []string{
		"", " ", "-", "0", "1", "198", "1987", "1987-", "1987-0", "1987-4", "-04", "04", "04-1987",
		"1987-00", "1987-13", "1987-14", "1987-20", "1987-99", "1987-004", "1987-040", "1987-012", "1987-1", "1987-123",
		"1899-12", "2200-01", "1899-01", "2200-12", "0000-01", "0001-01", "0099-12", "9999-12",
		"987-04", "87-04", "7-04", "01987-04", "11987-04", "19870-04", "21990-12", "00001987-04",
		"-1987-04", "+1987-04", "+987-04", "-987-04", "1987--4", "1987-+4", "1987+04", "1987--04", "1987-+04", "1987-4-",
		" 1987-04", "1987-04 ", " 1987-04 ", "1987 -04", "1987- 04", "1987- 4", "1987-4 ", "1987 04", " 987-04", "198 -04",
		"1987-04x", "x1987-04", "1987-04-01", "1987-04-", "1987-04\n", "\n1987-04", "1987-04\x00", "\x001987-04", "1987-0\x004", "1987-04,1987-05",
		"1987-041987-04", "1987:04", "1987/04", "1987.04", "1987_04", "198704", "19-8704", "198-704", "19870-4", "1987\xe2\x80\x9304",
		"198x-04", "x987-04", "1987-x4", "1987-0x", "1987-ab", "abcd-ef", "0x7c-04", "19e2-04", "1_87-04", "1987-0_",
		"198\xb2-04", "1987-0\xb2", "\xd9\xa1987-04", "April 1987", "1987-Apr",
	} {
		if got, ok := impl.ParseMonth(text); got != 0 || ok {
			t.Errorf("ParseMonth(%q) = %d, %v, want 0, false", text, got, ok)
		}
	}
}

// checkParse expects of ParseMonth exactly the months of the calendar.
func checkParse(t *testing.T, numbers map[string]int, text string) {
	t.Helper()
	want, wantOk := numbers[text]
	if got, ok := impl.ParseMonth(text); got != want || ok != wantOk {
		t.Errorf("ParseMonth(%q) = %d, %v, want %d, %v", text, got, ok, want, wantOk)
	}
}

func TestParseMonthOtherDigits(t *testing.T) {
	numbers := calendarNumbers()
	for year := 1780; year < 2320; year++ {
		for month := range 101 {
			for _, format := range []string{"%04d-%02d", "%d-%d", "%05d-%02d", "%04d-%03d", "%4d-%2d", "%+d-%02d", "%04d-%+d"} {
				checkParse(t, numbers, fmt.Sprintf(format, year, month))
			}
		}
	}
	for year := range 10000 {
		for _, month := range []int{0, 1, 12, 13} {
			checkParse(t, numbers, fmt.Sprintf("%04d-%02d", year, month))
			checkParse(t, numbers, fmt.Sprintf("%d-%02d", year, month))
		}
	}
}

// TestParseMonthOneChange replaces, inserts and removes each single byte of some texts.
func TestParseMonthOneChange(t *testing.T) {
	numbers := calendarNumbers()
	for _, text := range []string{"1900-01", "1900-12", "1987-04", "1999-10", "2000-09", "2199-01", "2199-12"} {
		for at := range len(text) + 1 {
			for c := range 256 {
				changed := string([]byte{byte(c)})
				checkParse(t, numbers, text[:at]+changed+text[at:])
				if at < len(text) {
					checkParse(t, numbers, text[:at]+changed+text[at+1:])
				}
			}
			checkParse(t, numbers, text[:at])
			checkParse(t, numbers, text[at:])
			if at < len(text) {
				checkParse(t, numbers, text[:at]+text[at+1:])
			}
		}
	}
}

func TestAgeAt(t *testing.T) {
	for _, c := range []struct {
		d    int
		want [3]int
	}{
		{0, [3]int{0, 0, 1}},
		{1, [3]int{0, 0, 1}},
		{5, [3]int{0, 0, 1}},
		{6, [3]int{0, 1, 1}},
		{7, [3]int{0, 1, 1}},
		{11, [3]int{0, 1, 1}},
		{12, [3]int{1, 1, 2}},
		{13, [3]int{1, 1, 2}},
		{17, [3]int{1, 1, 2}},
		{18, [3]int{1, 2, 2}},
		{23, [3]int{1, 2, 2}},
		{24, [3]int{2, 2, 3}},
		{779, [3]int{64, 65, 65}},
		{780, [3]int{65, 65, 66}},
		{785, [3]int{65, 65, 66}},
		{786, [3]int{65, 66, 66}},
		{3593, [3]int{299, 299, 300}},
		{3594, [3]int{299, 300, 300}},
		{impl.MaxMonth, [3]int{299, 300, 300}},
	} {
		last := impl.MaxMonth - c.d
		for _, birth := range []int{0, 1, 5, 7, 11, 12, 1047, last - 1, last} {
			if birth < 0 || birth > last {
				continue
			}
			for i, mode := range ageModes() {
				if got := impl.AgeAt(birth, birth+c.d, mode); got != c.want[i] {
					t.Errorf("AgeAt(%d, %d, %d) = %d, want %d", birth, birth+c.d, mode, got, c.want[i])
				}
			}
		}
	}
}

// TestAgeAtEveryMonth counts the ages up, with a month of the year in which each mode counts.
func TestAgeAtEveryMonth(t *testing.T) {
	for _, birth := range []int{0, 1, 6, 11, 12, 13, 1047, 3588, impl.MaxMonth - 1, impl.MaxMonth} {
		ages := []int{0, 0, 1}
		for m := birth; m <= impl.MaxMonth; m++ {
			switch inYear := (m - birth) % 12; {
			case m == birth:
			case inYear == 0:
				ages[0]++
				ages[2]++
			case inYear == 6:
				ages[1]++
			}
			for i, mode := range ageModes() {
				if got := impl.AgeAt(birth, m, mode); got != ages[i] {
					t.Errorf("AgeAt(%d, %d, %d) = %d, want %d", birth, m, mode, got, ages[i])
				}
			}
		}
	}
}

func TestAgeAtInvalid(t *testing.T) {
	refuses := func(birth int, m int, mode int) {
		t.Helper()
		if got := impl.AgeAt(birth, m, mode); got != -1 {
			t.Errorf("AgeAt(%d, %d, %d) = %d, want -1", birth, m, mode, got)
		}
	}
	for _, mode := range append(ageModes(), 0, 4) {
		for _, bad := range noMonths() {
			for _, m := range []int{0, 1, 1047, impl.MaxMonth} {
				refuses(bad, m, mode)
				refuses(m, bad, mode)
			}
			refuses(bad, bad, mode)
		}
		for _, birth := range []int{1, 6, 7, 12, 13, 1047, impl.MaxMonth} {
			refuses(birth, birth-1, mode)
			refuses(birth, 0, mode)
			refuses(impl.MaxMonth, birth-1, mode)
		}
	}
	for _, mode := range []int{0, 4, -1, -2, -3, 5, 6, 7, 257, 1<<32 + 1, math.MaxInt, math.MinInt} {
		for _, birth := range []int{0, 12, impl.MaxMonth} {
			refuses(birth, birth, mode)
			refuses(birth, impl.MaxMonth, mode)
		}
	}
}

func TestMonthsIn(t *testing.T) {
	for _, c := range []struct{ from, to, low, high, want int }{
		// overlapping
		{2, 8, 5, 20, 3},
		{5, 20, 2, 8, 3},
		{2, 8, 2, 8, 6},
		{0, 1, 0, 1, 1},
		{2, 8, 7, 20, 1},
		// one in the other
		{2, 20, 5, 8, 3},
		{5, 8, 2, 20, 3},
		{2, 20, 2, 8, 6},
		{2, 20, 8, 20, 12},
		// touching and apart
		{2, 5, 5, 8, 0},
		{5, 8, 2, 5, 0},
		{2, 5, 6, 8, 0},
		{6, 8, 2, 5, 0},
		{0, 1, impl.MaxMonth, monthEnd, 0},
		// empty
		{5, 5, 0, 20, 0},
		{0, 20, 5, 5, 0},
		{5, 5, 5, 5, 0},
		{0, 0, 0, 0, 0},
		{monthEnd, monthEnd, 0, monthEnd, 0},
		{monthEnd, monthEnd, monthEnd, monthEnd, 0},
		// turned round
		{8, 2, 0, 20, 0},
		{0, 20, 8, 2, 0},
		{8, 2, 8, 2, 0},
		{monthEnd, 0, 0, monthEnd, 0},
		{0, monthEnd, monthEnd, 0, 0},
		{monthEnd, 0, monthEnd, 0, 0},
		// the ends of time
		{0, monthEnd, 0, monthEnd, monthEnd},
		{0, impl.MaxMonth, 0, monthEnd, impl.MaxMonth},
		{0, monthEnd, 0, impl.MaxMonth, impl.MaxMonth},
		{1, monthEnd, 0, monthEnd, impl.MaxMonth},
		{0, monthEnd, 1, monthEnd, impl.MaxMonth},
		{impl.MaxMonth, monthEnd, 0, monthEnd, 1},
		{0, monthEnd, impl.MaxMonth, monthEnd, 1},
		{1047, 1059, 0, monthEnd, 12},
	} {
		if got := impl.MonthsIn(c.from, c.to, c.low, c.high); got != c.want {
			t.Errorf("MonthsIn(%d, %d, %d, %d) = %d, want %d", c.from, c.to, c.low, c.high, got, c.want)
		}
	}
}

// countMonths counts as the document tells it.
func countMonths(from int, to int, low int, high int) int {
	count := 0
	for m := range monthEnd {
		if from <= m && m < to && low <= m && m < high {
			count++
		}
	}
	return count
}

func TestMonthsInCounted(t *testing.T) {
	ends := []int{0, 1, 2, 3, 4, 1047, impl.MaxMonth - 1, impl.MaxMonth, monthEnd}
	for _, from := range ends {
		for _, to := range ends {
			for _, low := range ends {
				for _, high := range ends {
					want := countMonths(from, to, low, high)
					if got := impl.MonthsIn(from, to, low, high); got != want {
						t.Errorf("MonthsIn(%d, %d, %d, %d) = %d, want %d", from, to, low, high, got, want)
					}
				}
			}
		}
	}
}

func TestMonthsInInvalid(t *testing.T) {
	for _, bad := range []int{-1, -2, -12, monthEnd + 1, monthEnd + 2, 10000, 1 << 32, -1 << 32, math.MaxInt, math.MinInt} {
		// Every choice of the numbers that are replaced, of ranges that have months in common.
		for _, good := range [][4]int{{0, monthEnd, 0, monthEnd}, {2, 8, 5, 20}, {5, 20, 2, 8}} {
			for chosen := 1; chosen < 16; chosen++ {
				n := good
				for i := range n {
					if chosen>>i&1 == 1 {
						n[i] = bad
					}
				}
				if got := impl.MonthsIn(n[0], n[1], n[2], n[3]); got != 0 {
					t.Errorf("MonthsIn(%d, %d, %d, %d) = %d, want 0", n[0], n[1], n[2], n[3], got)
				}
			}
		}
	}
}
