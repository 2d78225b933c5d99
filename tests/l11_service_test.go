package tests

import (
	"cmp"
	"math"
	"math/rand"
	"slices"
	"testing"

	"loop.example/g00980/impl"
)

// mostSpells is written as a number here, so that a change of the limit does not change the tests.
const mostSpells = 30

func spell(from int, to int, percent int) impl.Spell {
	return impl.Spell{From: from, To: to, Percent: percent}
}

func leave(from int, to int, percent int) impl.Spell {
	return impl.Spell{From: from, To: to, Percent: percent, Leave: true}
}

func spellsOf(spells ...impl.Spell) []impl.Spell { return spells }

// careers holds a list with each of the spells alone.
func careers(spells []impl.Spell) [][]impl.Spell {
	var lists [][]impl.Spell
	for _, x := range spells {
		lists = append(lists, spellsOf(x))
	}
	return lists
}

// touchingSpells holds so many spells of two months each, the last of which ends at end.
func touchingSpells(count int, end int) []impl.Spell {
	var list []impl.Spell
	for i := range count {
		from := end - 2*(count-i)
		list = append(list, impl.Spell{From: from, To: from + 2, Percent: 1 + 3*i%100, Leave: i%4 == 3})
	}
	return list
}

// spacedSpells holds so many spells of three months each with breaks of two months, from month 5.
func spacedSpells(count int) []impl.Spell {
	var list []impl.Spell
	for i := range count {
		list = append(list, impl.Spell{From: 5 + 5*i, To: 8 + 5*i, Percent: 100 - 2*i%100, Leave: i%5 == 2})
	}
	return list
}

func validSpells() []impl.Spell {
	var list []impl.Spell
	for _, x := range []impl.Spell{
		spell(10, 20, 50), spell(10, 11, 100), spell(0, 1, 1), spell(1, 2, 2), spell(0, 20, 60),
		spell(0, impl.MaxMonth, 60), spell(0, monthEnd, 100), spell(1, monthEnd, 1), spell(10, impl.MaxMonth, 99), spell(10, monthEnd, 80),
		spell(impl.MaxMonth-1, impl.MaxMonth, 7), spell(impl.MaxMonth-1, monthEnd, 7), spell(impl.MaxMonth, monthEnd, 100),
	} {
		list = append(list, x, leave(x.From, x.To, x.Percent))
	}
	for _, percent := range []int{1, 2, 49, 50, 51, 99, 100} {
		list = append(list, spell(10, 20, percent), leave(10, 20, percent))
	}
	return list
}

func invalidSpells() []impl.Spell {
	list := []impl.Spell{{}, {Leave: true}, {Percent: 50}}
	months := [][2]int{
		{10, 10}, {11, 10}, {20, 10}, {0, 0}, {impl.MaxMonth, impl.MaxMonth}, {impl.MaxMonth, 10}, {monthEnd, monthEnd}, {monthEnd, 0},
		{-1, 0}, {-1, -1}, {-2, -1}, {-1, monthEnd}, {monthEnd, monthEnd + 1}, {-1, monthEnd + 1}, {impl.MaxMonth, monthEnd + 1},
		{math.MinInt, math.MaxInt}, {math.MaxInt, math.MinInt}, {math.MinInt, math.MinInt}, {math.MaxInt, math.MaxInt}, {math.MaxInt - 1, math.MaxInt},
	}
	for _, n := range noMonthEnds() {
		months = append(months, [2]int{n, 20}, [2]int{10, n}, [2]int{n, monthEnd}, [2]int{0, n}, [2]int{n, n})
	}
	for _, ends := range months {
		list = append(list, spell(ends[0], ends[1], 50), leave(ends[0], ends[1], 50))
	}
	for _, percent := range []int{0, -1, -2, -50, -100, 101, 102, 150, 1000, 1<<8 + 50, 1<<32 + 50, -1 << 32, math.MaxInt, math.MinInt} {
		list = append(list, spell(10, 20, percent), leave(10, 20, percent), spell(0, monthEnd, percent), spell(impl.MaxMonth, monthEnd, percent))
	}
	return list
}

// breaking is a career with part time, leave and breaks before, after and between leave.
func breaking() []impl.Spell {
	return spellsOf(leave(3, 5, 40), spell(5, 8, 100), spell(10, 20, 50), leave(20, 25, 80), spell(26, 30, 100), leave(40, 41, 100), leave(50, 52, 1), spell(52, 53, 1))
}

func validCareers() [][]impl.Spell {
	return slices.Concat(careers(validSpells()), [][]impl.Spell{
		nil,
		{},
		breaking(),
		// touching: with the same percent, with another one and with leave
		spellsOf(spell(0, 5, 50), spell(5, 10, 50)),
		spellsOf(spell(0, 5, 50), spell(5, 10, 100)),
		spellsOf(spell(0, 5, 50), leave(5, 10, 50), spell(10, 11, 50)),
		spellsOf(leave(0, 5, 50), leave(5, 10, 50)),
		spellsOf(spell(0, 1, 1), spell(1, 2, 2), spell(2, 3, 3)),
		spellsOf(spell(0, impl.MaxMonth, 100), spell(impl.MaxMonth, monthEnd, 50)),
		// one month apart and farther
		spellsOf(spell(0, 5, 50), spell(6, 10, 50)),
		spellsOf(spell(0, 5, 50), leave(6, 10, 50)),
		spellsOf(leave(0, 5, 50), spell(7, 10, 50)),
		spellsOf(leave(0, 1, 50), leave(impl.MaxMonth, monthEnd, 50)),
		spellsOf(spell(0, 1, 1), spell(impl.MaxMonth, monthEnd, 100)),
		touchingSpells(mostSpells-1, monthEnd), touchingSpells(mostSpells, monthEnd), touchingSpells(mostSpells, 2*mostSpells),
		spacedSpells(mostSpells - 1), spacedSpells(mostSpells),
	})
}

func invalidCareers() [][]impl.Spell {
	lists := slices.Concat(careers(invalidSpells()), [][]impl.Spell{
		// one common month, more, and one spell inside the other
		spellsOf(spell(0, 5, 50), spell(4, 10, 50)),
		spellsOf(spell(0, 5, 50), leave(4, 10, 50)),
		spellsOf(leave(0, 5, 50), spell(4, 10, 50)),
		spellsOf(leave(0, 5, 50), leave(4, 10, 50)),
		spellsOf(spell(0, 50, 50), spell(1, 100, 50)),
		spellsOf(spell(0, 50, 50), spell(10, 20, 50)),
		spellsOf(spell(10, 20, 50), spell(0, 50, 50)),
		// the same From
		spellsOf(spell(10, 20, 50), spell(10, 20, 50)),
		spellsOf(spell(10, 20, 50), spell(10, 11, 100)),
		spellsOf(spell(10, 11, 50), spell(10, 20, 50)),
		spellsOf(spell(10, 20, 50), leave(10, 20, 50)),
		spellsOf(spell(10, 11, 50), spell(10, 11, 50)),
		// not in order
		spellsOf(spell(5, 10, 50), spell(0, 5, 50)),
		spellsOf(spell(6, 10, 50), spell(0, 5, 50)),
		spellsOf(spell(0, 5, 50), spell(20, 30, 50), spell(10, 15, 50)),
		spellsOf(spell(impl.MaxMonth, monthEnd, 50), spell(0, 1, 50)),
		// only two that are not neighbours
		spellsOf(spell(0, 30, 50), spell(30, 40, 50), spell(29, 50, 50)),
		// the first pair and the last one
		spellsOf(spell(0, 5, 50), spell(4, 10, 50), spell(10, 20, 50)),
		spellsOf(spell(0, 5, 50), spell(5, 10, 50), spell(9, 20, 50)),
		touchingSpells(mostSpells+1, monthEnd), touchingSpells(mostSpells+1, 2*mostSpells+2), touchingSpells(2*mostSpells, monthEnd),
		spacedSpells(mostSpells + 1), spacedSpells(2 * mostSpells),
	})
	for _, x := range invalidSpells() {
		lists = append(lists, spellsOf(spell(1, 2, 50), x), spellsOf(x, spell(3000, 3001, 50)), spellsOf(spell(1, 2, 50), x, spell(3000, 3001, 50)))
	}
	return lists
}

// careerValid is written apart from the program: each spell begins in a month that none of those
// before it has reached.
func careerValid(list []impl.Spell) bool {
	reached := -1
	for _, x := range list {
		for _, numbers := range [][]int{{0, x.From, x.To - 1, 3599}, {1, x.Percent, 100}, {reached + 1, x.From}} {
			if !slices.IsSorted(numbers) {
				return false
			}
		}
		reached = x.To - 1
	}
	return len(list) <= 30
}

// monthlyPercents is written apart from the program: it lays the spells out month by month. A month
// outside every spell has none.
func monthlyPercents(list []impl.Spell) map[int]int {
	months := map[int]int{}
	for _, x := range list {
		for m := x.From; m < x.To; m++ {
			months[m] = x.Percent
			if x.Leave {
				months[m] = 0
			}
		}
	}
	return months
}

func wantedService(list []impl.Spell, from int, to int) int {
	if !careerValid(list) || min(from, to) < 0 || max(from, to) > 3600 {
		return 0
	}
	sum := 0
	for m, percent := range monthlyPercents(list) {
		if m >= from && m <= to-1 {
			sum += percent
		}
	}
	return sum
}

// wantedBreaks lengthens a break by each month between the first and the last one that is in no spell.
func wantedBreaks(list []impl.Spell) []impl.Segment {
	if !careerValid(list) || len(list) == 0 {
		return nil
	}
	var breaks []impl.Segment
	months := monthlyPercents(list)
	for m := list[0].From; m < list[len(list)-1].To; m++ {
		_, employed := months[m]
		last := len(breaks) - 1
		switch {
		case employed:
		case last >= 0 && breaks[last].To == m:
			breaks[last] = seg(breaks[last].From, m+1, breaks[last].Value+1)
		default:
			breaks = append(breaks, seg(m, m+1, 1))
		}
	}
	return breaks
}

// wantedCareer sorts the spells, in which x comes after the others with its From.
func wantedCareer(list []impl.Spell, x impl.Spell) ([]impl.Spell, bool) {
	sorted := append(slices.Clone(list), x)
	slices.SortStableFunc(sorted, func(a impl.Spell, b impl.Spell) int { return cmp.Compare(a.From, b.From) })
	if !careerValid(list) || !careerValid(sorted) {
		return list, false
	}
	return sorted, true
}

func TestSpellsOk(t *testing.T) {
	for _, list := range validCareers() {
		if !impl.SpellsOk(list) || !careerValid(list) {
			t.Errorf("SpellsOk(%v) = %v, and %v apart from the program, want true", list, impl.SpellsOk(list), careerValid(list))
		}
	}
	for _, list := range invalidCareers() {
		if impl.SpellsOk(list) || careerValid(list) {
			t.Errorf("SpellsOk(%v) = %v, and %v apart from the program, want false", list, impl.SpellsOk(list), careerValid(list))
		}
	}
}

// smallSpells holds every spell of the first months, also those that are not valid.
func smallSpells() []impl.Spell {
	var list []impl.Spell
	for code := range 6 * 6 {
		list = append(list, spell(code%6-1, code/6, 50))
	}
	return list
}

// TestSpellsOkEveryPair judges every two small spells, alone and behind one that they may touch.
func TestSpellsOkEveryPair(t *testing.T) {
	for _, a := range smallSpells() {
		for _, b := range smallSpells() {
			for _, list := range [][]impl.Spell{spellsOf(a, b), spellsOf(spell(0, 1, 20), a, b), spellsOf(a, b, leave(4, 9, 20))} {
				if got, want := impl.SpellsOk(list), careerValid(list); got != want {
					t.Errorf("SpellsOk(%v) = %v, want %v", list, got, want)
				}
			}
		}
	}
}

// TestSpellsOkEveryPlace puts a spell that is not valid at each place of the longest list.
func TestSpellsOkEveryPlace(t *testing.T) {
	for _, list := range [][]impl.Spell{touchingSpells(mostSpells, monthEnd), spacedSpells(mostSpells)} {
		for i, x := range list {
			for _, bad := range []impl.Spell{{}, spell(x.From, x.From, 50), spell(x.From, x.To, 0), leave(x.From, x.To, 101), spell(0, monthEnd, 50)} {
				if changed := slices.Replace(slices.Clone(list), i, i+1, bad); impl.SpellsOk(changed) {
					t.Errorf("SpellsOk(%v) = true, in spite of spell %d", changed, i)
				}
			}
		}
	}
}

func checkCareer(t *testing.T, name string, list []impl.Spell, x impl.Spell, want []impl.Spell, wantOk bool) {
	t.Helper()
	if got, ok := impl.AddSpell(list, x); !slices.Equal(got, want) || ok != wantOk {
		t.Errorf("%s: AddSpell(%v, %v) = %v, %v, want %v, %v", name, list, x, got, ok, want, wantOk)
	}
}

func TestAddSpell(t *testing.T) {
	first, last := spell(10, 20, 50), leave(30, 40, 80)
	both := spellsOf(first, last)
	for _, c := range []struct {
		name string
		x    impl.Spell
		at   int
	}{
		{"before the first, touching it", spell(5, 10, 100), 0},
		{"before the first, a month apart", leave(5, 9, 100), 0},
		{"before the first, far apart", spell(0, 1, 1), 0},
		{"between, touching both", spell(20, 30, 100), 1},
		{"between, touching the first", leave(20, 29, 100), 1},
		{"between, touching the last", spell(21, 30, 1), 1},
		{"between, touching none", leave(21, 29, 1), 1},
		{"between, one month", spell(25, 26, 99), 1},
		{"at the end, touching it", spell(40, 41, 80), 2},
		{"at the end, a month apart", leave(41, 42, 80), 2},
		{"at the end, far apart", spell(impl.MaxMonth, monthEnd, 80), 2},
		{"at the end, up to the last month", spell(40, monthEnd, 80), 2},
		{"one month in common with the first", spell(5, 11, 100), -1},
		{"the last month of the first", spell(19, 30, 100), -1},
		{"one month in common with the last", leave(20, 31, 100), -1},
		{"the last month of the last", leave(39, 50, 100), -1},
		{"around the first", spell(9, 21, 100), -1},
		{"inside the first", spell(12, 13, 100), -1},
		{"around both", spell(0, monthEnd, 100), -1},
		{"the first again", first, -1},
		{"the last again", last, -1},
		{"the From of the first", spell(10, 11, 100), -1},
		{"the From of the first, and longer", leave(10, 25, 100), -1},
		{"the From of the last", spell(30, 31, 100), -1},
		{"the months of the last, without leave", spell(30, 40, 80), -1},
		{"From equal to To, between", spell(25, 25, 100), -1},
		{"From equal to To, at the start of the first", spell(10, 10, 100), -1},
		{"percent 0", spell(20, 30, 0), -1},
		{"percent 101", spell(20, 30, 101), -1},
		{"before the first month", spell(-1, 10, 50), -1},
		{"beyond the last month", spell(40, monthEnd+1, 50), -1},
		{"the zero spell", impl.Spell{}, -1},
	} {
		want := both
		if c.at >= 0 {
			want = slices.Insert(slices.Clone(both), c.at, c.x)
		}
		checkCareer(t, c.name, both, c.x, want, c.at >= 0)
	}
	for _, none := range [][]impl.Spell{nil, {}} {
		for _, x := range validSpells() {
			checkCareer(t, "the first spell", none, x, spellsOf(x), true)
		}
		for _, x := range invalidSpells() {
			checkCareer(t, "no spell", none, x, nil, false)
		}
	}
}

func TestAddSpellLimit(t *testing.T) {
	for _, x := range []impl.Spell{spell(0, 1, 50), leave(10, 11, 50), spell(1000, 1001, 100), leave(impl.MaxMonth, monthEnd, 50)} {
		for _, count := range []int{mostSpells - 2, mostSpells - 1, mostSpells, mostSpells + 1, 2 * mostSpells} {
			list := touchingSpells(count, 2000)
			want, _ := wantedCareer(list, x)
			checkCareer(t, "at the limit", list, x, want, count < mostSpells)
		}
	}
}

// TestAddSpellEveryPlace takes each spell out of a list and adds it again.
func TestAddSpellEveryPlace(t *testing.T) {
	for _, list := range validCareers() {
		for i, x := range list {
			checkCareer(t, "again", slices.Delete(slices.Clone(list), i, i+1), x, list, true)
			checkCareer(t, "twice", list, x, list, false)
		}
	}
}

func TestAddSpellInvalidList(t *testing.T) {
	added := []impl.Spell{{}, spell(0, 1, 100), spell(10, 20, 50), leave(2000, 2001, 50), spell(impl.MaxMonth, monthEnd, 50)}
	for _, list := range invalidCareers() {
		for _, x := range slices.Concat(added, list[:min(2, len(list))]) {
			checkCareer(t, "an invalid list", list, x, list, false)
		}
	}
}

// TestAddSpellEverySmallList adds every small spell to every list of two of them, valid or not.
func TestAddSpellEverySmallList(t *testing.T) {
	for _, a := range smallSpells() {
		for _, b := range smallSpells() {
			for _, x := range smallSpells() {
				x.Leave = true
				list := spellsOf(a, b)
				want, wantOk := wantedCareer(list, x)
				checkCareer(t, "a small list", list, x, want, wantOk)
			}
		}
	}
}

func TestServiceIn(t *testing.T) {
	half := spellsOf(spell(10, 20, 50))
	list := breaking()
	all := spellsOf(spell(0, monthEnd, 100))
	ends := spellsOf(spell(0, 1, 7), leave(1, 2, 100), spell(impl.MaxMonth, monthEnd, 9))
	for _, c := range []struct {
		name     string
		list     []impl.Spell
		from, to int
		want     int
	}{
		{"every month", half, 0, monthEnd, 500},
		{"the months of the spell", half, 10, 20, 500},
		{"without its first month", half, 11, 20, 450},
		{"without its last month", half, 10, 19, 450},
		{"the month before it too", half, 9, 20, 500},
		{"the month after it too", half, 10, 21, 500},
		{"the first month", half, 10, 11, 50},
		{"the last month", half, 19, 20, 50},
		{"inside the spell", half, 13, 15, 100},
		{"begins before and ends inside", half, 0, 15, 250},
		{"begins inside and ends after", half, 15, monthEnd, 250},
		{"up to the month before", half, 0, 10, 0},
		{"from the month after", half, 20, monthEnd, 0},
		{"from equal to to", half, 15, 15, 0},
		{"from equal to to at the start", half, 10, 10, 0},
		{"from equal to to at the end", half, 20, 20, 0},
		{"from above to", half, 16, 15, 0},
		{"from far above to", half, monthEnd, 0, 0},
		{"from its To to its From", half, 20, 10, 0},
		{"no month at 0", half, 0, 0, 0},
		{"no month at the end", half, monthEnd, monthEnd, 0},
		{"the whole career", list, 0, monthEnd, 1201},
		{"from part of one spell to part of another", list, 7, 12, 200},
		{"leave at the start", list, 3, 5, 0},
		{"leave and a month behind it", list, 4, 6, 100},
		{"leave in the middle", list, 20, 25, 0},
		{"leave in the middle with a month on each side", list, 19, 27, 150},
		{"inside leave", list, 21, 23, 0},
		{"leave alone between breaks", list, 30, 50, 0},
		{"leave at the end and what it touches", list, 41, 60, 1},
		{"a break", list, 8, 10, 0},
		{"a break with a month on each side", list, 7, 11, 150},
		{"behind everything", list, 53, monthEnd, 0},
		{"before everything", list, 0, 3, 0},
		{"full time in all months", all, 0, monthEnd, 360000},
		{"full time in all months but one", all, 1, monthEnd, 359900},
		{"full time in all months but the last", all, 0, impl.MaxMonth, 359900},
		{"the first month of all", all, 0, 1, 100},
		{"the last month of all", all, impl.MaxMonth, monthEnd, 100},
		{"both ends", ends, 0, monthEnd, 16},
		{"the lower end", ends, 0, 1, 7},
		{"without the lower end", ends, 1, monthEnd, 9},
		{"the upper end", ends, impl.MaxMonth, monthEnd, 9},
		{"without the upper end", ends, 0, impl.MaxMonth, 7},
		{"leave for ever", spellsOf(leave(0, monthEnd, 100)), 0, monthEnd, 0},
		{"one percent for ever", spellsOf(spell(0, monthEnd, 1)), 0, monthEnd, 3600},
		{"no spell", nil, 0, monthEnd, 0},
		{"an empty list", spellsOf(), 0, 1, 0},
	} {
		if got := impl.ServiceIn(c.list, c.from, c.to); got != c.want || got != wantedService(c.list, c.from, c.to) {
			t.Errorf("%s: ServiceIn(%v, %d, %d) = %d, want %d", c.name, c.list, c.from, c.to, got, c.want)
		}
	}
}

func checkService(t *testing.T, list []impl.Spell, from int, to int) {
	t.Helper()
	if got, want := impl.ServiceIn(list, from, to), wantedService(list, from, to); got != want {
		t.Errorf("ServiceIn(%v, %d, %d) = %d, want %d", list, from, to, got, want)
	}
}

func TestServiceInEveryRange(t *testing.T) {
	for from := -2; from < 58; from++ {
		for to := -2; to < 58; to++ {
			checkService(t, breaking(), from, to)
		}
	}
	for _, list := range validCareers() {
		for _, from := range []int{-1, 0, 1, 10, 19, 20, impl.MaxMonth - 1, impl.MaxMonth, monthEnd, monthEnd + 1} {
			for _, to := range []int{-1, 0, 1, 10, 19, 20, impl.MaxMonth - 1, impl.MaxMonth, monthEnd, monthEnd + 1} {
				checkService(t, list, from, to)
			}
		}
	}
}

func TestServiceInInvalid(t *testing.T) {
	none := func(list []impl.Spell, from int, to int) {
		t.Helper()
		if got := impl.ServiceIn(list, from, to); got != 0 {
			t.Errorf("ServiceIn(%v, %d, %d) = %d, want 0", list, from, to, got)
		}
	}
	for _, list := range invalidCareers() {
		for _, ends := range [][2]int{{0, monthEnd}, {0, 2}, {5, 15}, {15, 2500}, {3000, 3001}} {
			none(list, ends[0], ends[1])
		}
	}
	for _, list := range [][]impl.Spell{nil, spellsOf(spell(0, monthEnd, 100)), breaking()} {
		for _, bad := range noMonthEnds() {
			for _, end := range []int{0, 1, 20, impl.MaxMonth, monthEnd, -1, monthEnd + 1, bad, bad + 1} {
				none(list, bad, end)
				none(list, end, bad)
			}
		}
	}
}

func TestPercentAt(t *testing.T) {
	list := breaking()
	all := spellsOf(spell(0, monthEnd, 99))
	ends := spellsOf(spell(0, 1, 7), leave(1, 2, 100), spell(impl.MaxMonth, monthEnd, 9))
	for _, c := range []struct {
		list []impl.Spell
		m    int
		want int
	}{
		{list, 0, 0}, {list, 2, 0}, {list, 3, 0}, {list, 4, 0}, {list, 5, 100}, {list, 6, 100}, {list, 7, 100}, {list, 8, 0}, {list, 9, 0},
		{list, 10, 50}, {list, 11, 50}, {list, 19, 50}, {list, 20, 0}, {list, 24, 0}, {list, 25, 0}, {list, 26, 100}, {list, 29, 100}, {list, 30, 0},
		{list, 39, 0}, {list, 40, 0}, {list, 41, 0}, {list, 50, 0}, {list, 51, 0}, {list, 52, 1}, {list, 53, 0}, {list, impl.MaxMonth, 0},
		{all, 0, 99}, {all, 1, 99}, {all, impl.MaxMonth - 1, 99}, {all, impl.MaxMonth, 99},
		{ends, 0, 7}, {ends, 1, 0}, {ends, 2, 0}, {ends, impl.MaxMonth - 1, 0}, {ends, impl.MaxMonth, 9},
		{spellsOf(leave(0, monthEnd, 100)), 0, 0}, {spellsOf(leave(0, monthEnd, 100)), impl.MaxMonth, 0},
		{nil, 0, 0}, {spellsOf(), impl.MaxMonth, 0},
	} {
		if got := impl.PercentAt(c.list, c.m); got != c.want {
			t.Errorf("PercentAt(%v, %d) = %d, want %d", c.list, c.m, got, c.want)
		}
	}
	for _, x := range validSpells() {
		for _, m := range []int{x.From - 1, x.From, x.To - 1, x.To} {
			if got, want := impl.PercentAt(spellsOf(x), m), monthlyPercents(spellsOf(x))[m]; got != want {
				t.Errorf("PercentAt({%v}, %d) = %d, want %d", x, m, got, want)
			}
		}
	}
}

func TestPercentAtInvalid(t *testing.T) {
	for _, list := range validCareers() {
		for _, m := range noMonths() {
			if got := impl.PercentAt(list, m); got != 0 {
				t.Errorf("PercentAt(%v, %d) = %d, want 0", list, m, got)
			}
		}
	}
	for _, list := range invalidCareers() {
		for _, m := range slices.Concat([]int{0, 1, 4, 10, 15, 3000, impl.MaxMonth}, noMonths()) {
			if got := impl.PercentAt(list, m); got != 0 {
				t.Errorf("PercentAt(%v, %d) = %d, want 0", list, m, got)
			}
		}
	}
}

func TestBreaksOf(t *testing.T) {
	for _, c := range []struct {
		name string
		list []impl.Spell
		want []impl.Segment
	}{
		{"no spell", nil, nil},
		{"an empty list", spellsOf(), nil},
		{"one spell", spellsOf(spell(10, 20, 50)), nil},
		{"one leave", spellsOf(leave(10, 20, 50)), nil},
		{"touching", spellsOf(spell(10, 20, 50), spell(20, 30, 60)), nil},
		{"touching with the same percent", spellsOf(spell(10, 20, 50), spell(20, 30, 50)), nil},
		{"touching leave", spellsOf(spell(10, 20, 50), leave(20, 30, 50), spell(30, 40, 50)), nil},
		{"one month apart", spellsOf(spell(10, 20, 50), spell(21, 30, 60)), listOf(seg(20, 21, 1))},
		{"two months apart", spellsOf(spell(10, 20, 50), spell(22, 30, 60)), listOf(seg(20, 22, 2))},
		{"far apart", spellsOf(spell(0, 1, 50), spell(impl.MaxMonth, monthEnd, 60)), listOf(seg(1, impl.MaxMonth, 3598))},
		{"leave before the break", spellsOf(leave(10, 20, 50), spell(25, 30, 60)), listOf(seg(20, 25, 5))},
		{"leave after the break", spellsOf(spell(10, 20, 50), leave(25, 30, 60)), listOf(seg(20, 25, 5))},
		{"leave on both sides", spellsOf(leave(10, 20, 50), leave(25, 30, 60)), listOf(seg(20, 25, 5))},
		{"the first two touch", spellsOf(spell(0, 5, 1), spell(5, 6, 2), spell(9, 10, 3)), listOf(seg(6, 9, 3))},
		{"the last two touch", spellsOf(spell(0, 5, 1), spell(7, 9, 2), spell(9, 10, 3)), listOf(seg(5, 7, 2))},
		{"two breaks", spellsOf(spell(0, 5, 1), spell(7, 9, 2), spell(19, 20, 3)), listOf(seg(5, 7, 2), seg(9, 19, 10))},
		{"two breaks of the same length", spellsOf(spell(1, 2, 1), spell(3, 4, 1), spell(5, 6, 1)), listOf(seg(2, 3, 1), seg(4, 5, 1))},
		{"a career", breaking(), listOf(seg(8, 10, 2), seg(25, 26, 1), seg(30, 40, 10), seg(41, 50, 9))},
		{"not before the first spell and not after the last", spellsOf(spell(100, 200, 1), spell(300, 400, 1)), listOf(seg(200, 300, 100))},
		{"most spells without breaks", touchingSpells(mostSpells, monthEnd), nil},
	} {
		if got := impl.BreaksOf(c.list); !slices.Equal(got, c.want) {
			t.Errorf("%s: BreaksOf(%v) = %v, want %v", c.name, c.list, got, c.want)
		}
	}
	for _, list := range validCareers() {
		if got, want := impl.BreaksOf(list), wantedBreaks(list); !slices.Equal(got, want) {
			t.Errorf("BreaksOf(%v) = %v, want %v", list, got, want)
		}
	}
	if got := impl.BreaksOf(spacedSpells(mostSpells)); len(got) != mostSpells-1 || got[28] != seg(148, 150, 2) {
		t.Errorf("BreaksOf of %d spells = %v", mostSpells, got)
	}
	for _, list := range invalidCareers() {
		if got := impl.BreaksOf(list); len(got) != 0 {
			t.Errorf("BreaksOf(%v) = %v, want none", list, got)
		}
	}
}

// randomSpell has months close to those of others, so that many touch or overlap.
func randomSpell(random *rand.Rand) impl.Spell {
	from := random.Intn(90)
	return impl.Spell{From: from, To: from + random.Intn(7), Percent: random.Intn(103), Leave: random.Intn(4) == 0}
}

// TestRandomCareers checks the promise with lists that grow by random spells, valid or not.
func TestRandomCareers(t *testing.T) {
	random := rand.New(rand.NewSource(11))
	longest := 0
	for range 200 {
		var list []impl.Spell
		for range 60 {
			x := randomSpell(random)
			want, wantOk := wantedCareer(list, x)
			checkCareer(t, "a random spell", list, x, want, wantOk)
			longer, _ := impl.AddSpell(list, x)
			checkAddedService(t, list, x, longer)
			list = longer
		}
		checkMonthly(t, list, random.Intn(100), random.Intn(100))
		checkFilled(t, list)
		longest = max(longest, len(list))
	}
	if longest < 15 {
		t.Errorf("the longest of the random careers has only %d spells", longest)
	}
}

// checkAddedService checks that longer is valid and has the service of both, list and x, if x was
// added, and otherwise that of list.
func checkAddedService(t *testing.T, list []impl.Spell, x impl.Spell, longer []impl.Spell) {
	t.Helper()
	want := impl.ServiceIn(list, 0, monthEnd)
	if len(longer) > len(list) && !x.Leave {
		want += (x.To - x.From) * x.Percent
	}
	if got := impl.ServiceIn(longer, 0, monthEnd); got != want || !impl.SpellsOk(longer) {
		t.Errorf("%v has the service %d, valid: %v, after %v was added to %v, want %d", longer, got, impl.SpellsOk(longer), x, list, want)
	}
	for m := x.From - 2; m < x.To+2; m++ {
		want := impl.PercentAt(list, m)
		if len(longer) > len(list) {
			want += monthlyPercents(spellsOf(x))[m]
		}
		if got := impl.PercentAt(longer, m); got != want {
			t.Errorf("PercentAt(%v, %d) = %d after %v was added to %v, want %d", longer, m, got, x, list, want)
		}
	}
}

// checkMonthly checks that the service of a range is the sum of its months, also in two parts.
func checkMonthly(t *testing.T, list []impl.Spell, from int, to int) {
	t.Helper()
	sum := 0
	for m := from; m < to; m++ {
		sum += impl.PercentAt(list, m)
	}
	if got := impl.ServiceIn(list, from, to); got != sum {
		t.Errorf("ServiceIn(%v, %d, %d) = %d, but the months have %d", list, from, to, got, sum)
	}
	if whole, parts := impl.ServiceIn(list, 0, monthEnd), impl.ServiceIn(list, 0, from)+impl.ServiceIn(list, from, monthEnd); whole != parts {
		t.Errorf("ServiceIn(%v) is %d for all months, but %d in two parts at %d", list, whole, parts, from)
	}
}

// checkFilled checks that the spells and the breaks have every month from the first to the last
// spell exactly once.
func checkFilled(t *testing.T, list []impl.Spell) {
	t.Helper()
	breaks := impl.BreaksOf(list)
	if !slices.Equal(breaks, wantedBreaks(list)) || !impl.TimelineOk(breaks) {
		t.Errorf("BreaksOf(%v) = %v, want %v", list, breaks, wantedBreaks(list))
	}
	months := map[int]int{}
	for _, x := range list {
		for m := x.From; m < x.To; m++ {
			months[m]++
		}
	}
	for _, b := range breaks {
		for m := b.From; m < b.To; m++ {
			months[m]++
		}
	}
	for m := range monthEnd {
		want := 0
		if len(list) > 0 && list[0].From <= m && m < list[len(list)-1].To {
			want = 1
		}
		if months[m] != want {
			t.Errorf("%v and the breaks %v have the month %d %d times, want %d", list, breaks, m, months[m], want)
		}
	}
}

func TestPromiseOfNamedCareers(t *testing.T) {
	for _, list := range validCareers() {
		for _, ends := range [][2]int{{0, monthEnd}, {11, 12}, {1, impl.MaxMonth}, {impl.MaxMonth, monthEnd}, {15, 3550}} {
			checkMonthly(t, list, ends[0], ends[1])
		}
		checkFilled(t, list)
	}
}

// markSpell is in no list of the tests.
func markSpell() impl.Spell { return impl.Spell{From: -7, To: -8, Percent: -9, Leave: true} }

func TestAddSpellSharesNoMemory(t *testing.T) {
	lists := slices.Concat(validCareers(), invalidCareers())
	for _, list := range lists {
		for _, x := range []impl.Spell{spell(0, 1, 50), spell(25, 26, 50), leave(3500, 3501, 50), {}} {
			given := withRoom(list, markSpell())
			one, oneOk := impl.AddSpell(given, x)
			other, otherOk := impl.AddSpell(given, x)
			want := slices.Clone(one)
			overwriteAll(one, markSpell())
			if oneOk != otherOk || !isWithRoom(given, list, markSpell()) || !slices.Equal(other, want) {
				t.Errorf("AddSpell changes its argument %v, or a change of its result changes it or another result", list)
			}
			overwriteAll(given, markSpell())
			if !slices.Equal(other, want) {
				t.Errorf("AddSpell(%v, %v) returns memory of its argument", list, x)
			}
		}
	}
}

func TestBreaksShareNoMemory(t *testing.T) {
	for _, list := range slices.Concat(validCareers(), invalidCareers()) {
		given := withRoom(list, markSpell())
		one, other := impl.BreaksOf(given), impl.BreaksOf(given)
		want := slices.Clone(one)
		overwriteAll(one, seg(-1, -2, -3))
		overwriteAll(given, markSpell())
		if !slices.Equal(other, want) {
			t.Errorf("a change of the breaks in %v changes those of another call", list)
		}
	}
}

func TestSpellsAreNotChanged(t *testing.T) {
	for _, list := range slices.Concat(validCareers(), invalidCareers()) {
		given := withRoom(list, markSpell())
		impl.SpellsOk(given)
		impl.ServiceIn(given, 0, monthEnd)
		impl.PercentAt(given, 10)
		impl.BreaksOf(given)
		if !isWithRoom(given, list, markSpell()) {
			t.Errorf("a function changes its argument %v", list)
		}
	}
}
