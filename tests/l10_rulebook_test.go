package tests

import (
	"math"
	"math/rand"
	"slices"
	"testing"

	"loop.example/g00980/impl"
)

// The limits are written as numbers here, so that a change of them does not change the tests.
const (
	mostRules    = 20
	greatestRank = 9
	greatestName = 20
)

// plainRule has the formula v0, rounded down.
func plainRule(name int, from int, to int, joined int, rank int) impl.Rule {
	return impl.Rule{Name: name, From: from, To: to, Joined: joined, Rank: rank, Mode: impl.RdDown, Nodes: formula(varNode(0))}
}

// forAll is a plain rule of name 1 for members whenever they joined.
func forAll(from int, to int, rank int) impl.Rule { return plainRule(1, from, to, monthEnd, rank) }

func bookOf(rules ...impl.Rule) impl.Book { return impl.Book{Rules: rules} }

func numbersOf(r impl.Rule) [6]int {
	return [6]int{r.Name, r.From, r.To, r.Joined, r.Rank, r.Mode}
}

func sameRule(a impl.Rule, b impl.Rule) bool {
	return numbersOf(a) == numbersOf(b) && slices.Equal(a.Nodes, b.Nodes)
}

func sameBook(a impl.Book, b impl.Book) bool { return slices.EqualFunc(a.Rules, b.Rules, sameRule) }

// ruleWith returns a copy of r with nodes of its own that change has changed.
func ruleWith(r impl.Rule, change func(r *impl.Rule)) impl.Rule {
	r.Nodes = slices.Clone(r.Nodes)
	change(&r)
	return r
}

// changedRules holds what change makes of a valid rule with each of the numbers.
func changedRules(numbers []int, change func(r *impl.Rule, n int)) []impl.Rule {
	var list []impl.Rule
	for _, n := range numbers {
		list = append(list, ruleWith(plainRule(3, 10, 30, 40, 5), func(r *impl.Rule) { change(r, n) }))
	}
	return list
}

// withNodes holds a valid rule with each of the formulas.
func withNodes(formulas ...[]impl.Node) []impl.Rule {
	var list []impl.Rule
	for _, nodes := range formulas {
		list = append(list, ruleWith(plainRule(3, 10, 30, 40, 5), func(r *impl.Rule) { r.Nodes = nodes }))
	}
	return list
}

func validRules() []impl.Rule {
	return slices.Concat(
		changedRules([]int{1, 2, greatestName - 1, greatestName}, func(r *impl.Rule, n int) { r.Name = n }),
		changedRules([]int{0, 1, 28, 29}, func(r *impl.Rule, n int) { r.From = n }),
		changedRules([]int{11, 12, impl.MaxMonth, monthEnd}, func(r *impl.Rule, n int) { r.To = n }),
		changedRules([]int{0, 1, impl.MaxMonth - 1, impl.MaxMonth}, func(r *impl.Rule, n int) { r.From, r.To = n, n+1 }),
		changedRules([]int{impl.MaxMonth, monthEnd}, func(r *impl.Rule, n int) { r.From, r.To = 0, n }),
		changedRules([]int{1, 2, impl.MaxMonth - 1, impl.MaxMonth, monthEnd}, func(r *impl.Rule, n int) { r.Joined = n }),
		changedRules([]int{0, 1, greatestRank - 1, greatestRank}, func(r *impl.Rule, n int) { r.Rank = n }),
		changedRules(roundingModes(), func(r *impl.Rule, n int) { r.Mode = n }),
		withNodes(formula(constNode(0, 1)), growing(2), growing(mostNodes), behind(pickNode(28, 27, 0), mostNodes-1)),
	)
}

func invalidRules() []impl.Rule {
	outside := func(least int, greatest int) []int {
		return []int{least - 1, least - 2, -greatest, greatest + 1, greatest + 2, 1<<8 + least, 1<<16 + least, 1<<32 + greatest, -1 << 32, math.MaxInt, math.MinInt}
	}
	return slices.Concat(
		[]impl.Rule{{}},
		changedRules(outside(1, greatestName), func(r *impl.Rule, n int) { r.Name = n }),
		changedRules(noMonthEnds(), func(r *impl.Rule, n int) { r.From = n }),
		changedRules([]int{30, 31, impl.MaxMonth, monthEnd}, func(r *impl.Rule, n int) { r.From = n }),
		changedRules(noMonthEnds(), func(r *impl.Rule, n int) { r.To = n }),
		changedRules([]int{0, 9, 10}, func(r *impl.Rule, n int) { r.To = n }),
		changedRules([]int{0, 10, impl.MaxMonth, monthEnd}, func(r *impl.Rule, n int) { r.From, r.To = n, n }),
		changedRules([]int{-1, monthEnd}, func(r *impl.Rule, n int) { r.From, r.To = n, n+1 }),
		changedRules([]int{0, -1, -2, -40, monthEnd + 1, monthEnd + 2, 1<<32 + 40, -1 << 32, math.MaxInt, math.MinInt}, func(r *impl.Rule, n int) { r.Joined = n }),
		changedRules(outside(0, greatestRank), func(r *impl.Rule, n int) { r.Rank = n }),
		changedRules(outside(1, 4), func(r *impl.Rule, n int) { r.Mode = n }),
		withNodes(nil, formula(), formula(impl.Node{}), formula(varNode(8)), formula(constNode(2, 4)), formula(opNode(impl.NdAdd, 0, 0)),
			formula(varNode(0), pickNode(0, 0, 1)), growing(mostNodes+1), behind(varNode(-1), mostNodes-1)),
	)
}

// ruleValid is written apart from the program: the numbers are in order with the ends of their ranges.
func ruleValid(r impl.Rule) bool {
	for _, list := range [][]int{{1, r.Name, 20}, {0, r.From, r.To - 1, 3599}, {1, r.Joined, 3600}, {0, r.Rank, 9}, {1, r.Mode, 4}} {
		if !slices.IsSorted(list) {
			return false
		}
	}
	return formulaValid(r.Nodes)
}

// bookValid is written apart from the program: of the rules of one name and rank, in the order of
// their first months, each ends before the next one.
func bookValid(b impl.Book) bool {
	groups := map[[2]int][][]int{}
	for _, r := range b.Rules {
		if !ruleValid(r) {
			return false
		}
		group := [2]int{r.Name, r.Rank}
		groups[group] = append(groups[group], []int{r.From, r.To - 1})
	}
	for _, ranges := range groups {
		slices.SortFunc(ranges, slices.Compare)
		months := slices.Concat(ranges...)
		for i := 2; i < len(months); i += 2 {
			if months[i] == months[i-1] {
				return false
			}
		}
		if !slices.IsSorted(months) {
			return false
		}
	}
	return len(b.Rules) <= mostRules
}

// wantedRule is written apart from the program: it asks for a rule of each rank, from the greatest on.
func wantedRule(b impl.Book, name int, m int, joined int) int {
	if !bookValid(b) {
		return -1
	}
	for rank := greatestRank; rank >= 0; rank-- {
		for i, r := range b.Rules {
			if r.Rank == rank && r.Name == name && slices.IsSorted([]int{r.From, m, r.To - 1}) && !slices.IsSorted([]int{r.Joined, joined}) {
				return i
			}
		}
	}
	return -1
}

func wantedGaps(b impl.Book, name int, joined int, from int, to int) []int {
	var months []int
	if !bookValid(b) || min(from, to) < 0 || max(from, to) > monthEnd {
		return nil
	}
	for m := from; m < to; m++ {
		if wantedRule(b, name, m, joined) == -1 {
			months = append(months, m)
		}
	}
	return months
}

func wantedProtection(b impl.Book, name int, m int, joined int) bool {
	old, late := wantedRule(b, name, m, joined), wantedRule(b, name, m, 3599)
	return old != -1 && old != late
}

// distinctRules holds so many rules of which no two have the same name and the same rank, at most 200.
func distinctRules(count int) []impl.Rule {
	var rules []impl.Rule
	for i := range count {
		rules = append(rules, plainRule(1+i%greatestName, 10, 30, 1+i, i/greatestName))
	}
	return rules
}

// stackedRules holds rules of one name, one for each rank, that all apply in the same months.
func stackedRules() []impl.Rule {
	var rules []impl.Rule
	for rank := range greatestRank + 1 {
		rules = append(rules, forAll(10, 30, rank))
	}
	return rules
}

// touchingRules holds so many rules of one name and one rank, each of which begins where the one
// before it ends, up to the last month.
func touchingRules(count int) []impl.Rule {
	var rules []impl.Rule
	for i := range count {
		rules = append(rules, forAll(monthEnd-3*(count-i), monthEnd-3*(count-i-1), 4))
	}
	return rules
}

// protecting is a book with rules for all members and, of higher and of lower ranks, for earlier ones.
func protecting() impl.Book {
	return bookOf(
		forAll(0, 50, 3),
		plainRule(1, 20, 30, 10, 7),
		plainRule(1, 25, 60, 40, 2),
		plainRule(1, 28, 33, 20, 8),
		plainRule(2, 0, monthEnd, 1, 0),
		forAll(70, 80, 3),
		plainRule(1, 75, 78, impl.MaxMonth, 4),
	)
}

func validBooks() []impl.Book {
	list := []impl.Book{{}, {Rules: []impl.Rule{}}, protecting()}
	for _, r := range validRules() {
		other := ruleWith(r, func(r *impl.Rule) { r.Name = 1 + r.Name%greatestName })
		higher := ruleWith(r, func(r *impl.Rule) { r.Rank = (r.Rank + 1) % (greatestRank + 1) })
		list = append(list, bookOf(r), bookOf(r, other), bookOf(r, higher), bookOf(other, higher, r))
	}
	for _, count := range []int{2, mostRules - 1, mostRules} {
		list = append(list, bookOf(distinctRules(count)...), bookOf(touchingRules(count)...))
	}
	return append(list, bookOf(stackedRules()...), bookOf(slices.Concat(stackedRules(), touchingRules(10))...))
}

func invalidBooks() []impl.Book {
	var list []impl.Book
	for _, bad := range invalidRules() {
		list = append(list, bookOf(bad), bookOf(bad, forAll(10, 30, 0)), bookOf(forAll(10, 30, 0), bad), bookOf(forAll(10, 30, 0), bad, forAll(30, 31, 0)),
			bookOf(append(distinctRules(mostRules-1), bad)...))
	}
	for _, count := range []int{mostRules + 1, mostRules + 2, 2 * mostRules, 10 * mostRules} {
		list = append(list, bookOf(distinctRules(count)...), bookOf(touchingRules(count)...))
	}
	for _, r := range validRules() {
		list = append(list, bookOf(r, r))
	}
	for _, pair := range tiedPairs() {
		list = append(list, bookOf(pair...))
	}
	return list
}

// tiedPairs holds rules of one name and one rank that have a common month.
func tiedPairs() [][]impl.Rule {
	return [][]impl.Rule{
		{forAll(10, 20, 3), forAll(10, 20, 3)},
		{forAll(10, 20, 3), forAll(19, 30, 3)},
		{forAll(19, 30, 3), forAll(10, 20, 3)},
		{forAll(10, 20, 0), forAll(15, 16, 0)},
		{forAll(15, 16, 9), forAll(10, 20, 9)},
		{forAll(0, monthEnd, 3), forAll(impl.MaxMonth, monthEnd, 3)},
		{forAll(0, 1, 3), forAll(0, monthEnd, 3)},
		// other members, another rounding mode and another formula do not count
		{plainRule(1, 10, 20, 5, 3), plainRule(1, 19, 30, 80, 3)},
		{plainRule(1, 10, 20, 1, 3), forAll(10, 20, 3)},
		{forAll(10, 20, 3), ruleWith(forAll(19, 30, 3), func(r *impl.Rule) { r.Mode = impl.RdUp })},
		{forAll(10, 20, 3), ruleWith(forAll(19, 30, 3), func(r *impl.Rule) { r.Nodes = formula(constNode(1, 2)) })},
	}
}

func TestRulebookLimits(t *testing.T) {
	if got, want := []int{impl.MaxRules, impl.MaxRank}, []int{20, 9}; !slices.Equal(got, want) {
		t.Errorf("limits are %v, want %v", got, want)
	}
}

func TestRuleOk(t *testing.T) {
	for _, r := range slices.Concat(validRules(), withNodes(validFormulas()...)) {
		if !impl.RuleOk(r) || !ruleValid(r) {
			t.Errorf("RuleOk(%v) = false", r)
		}
	}
	for _, r := range slices.Concat(invalidRules(), withNodes(invalidFormulas()...)) {
		if impl.RuleOk(r) || ruleValid(r) {
			t.Errorf("RuleOk(%v) = true", r)
		}
	}
}

// TestRuleOkEveryRule judges every rule with numbers around the ends of their ranges.
func TestRuleOkEveryRule(t *testing.T) {
	months := []int{-1, 0, 1, impl.MaxMonth, monthEnd, monthEnd + 1}
	for _, from := range months {
		for _, to := range months {
			for _, joined := range months {
				for _, name := range []int{0, 1, greatestName, greatestName + 1} {
					for _, rank := range []int{-1, 0, greatestRank, greatestRank + 1} {
						for mode := range 6 {
							r := impl.Rule{Name: name, From: from, To: to, Joined: joined, Rank: rank, Mode: mode, Nodes: formula(varNode(7))}
							if got, want := impl.RuleOk(r), ruleValid(r); got != want {
								t.Errorf("RuleOk(%v) = %v, want %v", r, got, want)
							}
						}
					}
				}
			}
		}
	}
}

func TestBookOk(t *testing.T) {
	for _, b := range validBooks() {
		if !impl.BookOk(b) || !bookValid(b) {
			t.Errorf("BookOk(%v) = false", b)
		}
	}
	for _, b := range invalidBooks() {
		if impl.BookOk(b) || bookValid(b) {
			t.Errorf("BookOk(%v) = true", b)
		}
	}
}

// TestBookOkEveryPair judges every pair of ranges of months, near the first months and near the
// last ones, for rules of the same and of another name and rank.
func TestBookOkEveryPair(t *testing.T) {
	const last = 5
	for code := range (last + 1) * (last + 1) * (last + 1) * (last + 1) {
		a, b, c, d := code%6, code/6%6, code/36%6, code/216
		if a >= b || c >= d {
			continue
		}
		common := false
		for m := range last {
			common = common || a <= m && m < b && c <= m && m < d
		}
		for _, shift := range []int{0, monthEnd - last} {
			one, other := forAll(a+shift, b+shift, 2), forAll(c+shift, d+shift, 2)
			if got := impl.BookOk(bookOf(one, other)); got == common {
				t.Errorf("BookOk with the months %d to %d and %d to %d = %v", one.From, one.To, other.From, other.To, got)
			}
			for _, changed := range []impl.Rule{
				ruleWith(other, func(r *impl.Rule) { r.Name = 2 }),
				ruleWith(other, func(r *impl.Rule) { r.Rank = 1 }),
				ruleWith(other, func(r *impl.Rule) { r.Rank = 3 }),
				ruleWith(other, func(r *impl.Rule) { r.Name, r.Rank = 2, 3 }),
			} {
				if !impl.BookOk(bookOf(one, changed)) || !impl.BookOk(bookOf(changed, one)) {
					t.Errorf("BookOk with %v and %v = false", one, changed)
				}
			}
		}
	}
}

// TestBookOkEveryPlace puts two rules with a common month into all places of a book.
func TestBookOkEveryPlace(t *testing.T) {
	for i := range mostRules {
		for k := range mostRules {
			if i == k {
				continue
			}
			rules := distinctRules(mostRules)
			for name := range rules {
				rules[name].Name, rules[name].Rank = greatestName-name, name%10
			}
			rules[k].Name, rules[k].Rank = rules[i].Name, rules[i].Rank
			rules[k].From, rules[k].To = 29, 31
			if impl.BookOk(bookOf(rules...)) {
				t.Errorf("BookOk with a common month of the rules %d and %d = true", i, k)
			}
			rules[k].From = 30
			if !impl.BookOk(bookOf(rules...)) {
				t.Errorf("BookOk with the rules %d and %d that touch = false", i, k)
			}
		}
	}
}

// checkAdd compares AddRule with the list of rules with r behind it.
func checkAdd(t *testing.T, name string, b impl.Book, r impl.Rule) {
	t.Helper()
	want := bookOf(slices.Concat(b.Rules, []impl.Rule{r})...)
	wantOk := bookValid(b) && bookValid(want)
	if !wantOk {
		want = b
	}
	if got, ok := impl.AddRule(b, r); ok != wantOk || !sameBook(got, want) {
		t.Errorf("%s: AddRule(%v, %v) = %v, %v, want %v, %v", name, b, r, got, ok, want, wantOk)
	}
}

func TestAddRule(t *testing.T) {
	rules := slices.Concat(validRules(), invalidRules()[:12], invalidRules()[len(invalidRules())-4:])
	for _, b := range slices.Concat(validBooks(), invalidBooks()) {
		for _, r := range rules {
			checkAdd(t, "a book", b, r)
		}
	}
	for _, b := range []impl.Book{{}, protecting(), bookOf(distinctRules(mostRules - 1)...), bookOf(distinctRules(mostRules)...)} {
		for _, r := range invalidRules() {
			checkAdd(t, "an invalid rule", b, r)
		}
	}
}

func TestAddRuleNamed(t *testing.T) {
	full := bookOf(distinctRules(mostRules)...)
	free := plainRule(1, 10, 30, 1, greatestRank)
	for _, c := range []struct {
		name string
		b    impl.Book
		r    impl.Rule
		want bool
	}{
		{"to the empty book", impl.Book{}, forAll(0, monthEnd, 0), true},
		{"the zero rule to the empty book", impl.Book{}, impl.Rule{}, false},
		{"the rule number MaxRules", bookOf(full.Rules[:mostRules-1]...), free, true},
		{"a rule beyond MaxRules", full, free, false},
		{"to a book of MaxRules+1 rules", bookOf(distinctRules(mostRules + 1)...), free, false},
		{"the same rule again", bookOf(forAll(10, 30, 3)), forAll(10, 30, 3), false},
		{"one that touches behind", bookOf(forAll(10, 30, 3)), forAll(30, 40, 3), true},
		{"one that touches in front", bookOf(forAll(10, 30, 3)), forAll(0, 10, 3), true},
		{"one that shares the last month", bookOf(forAll(10, 30, 3)), forAll(29, 40, 3), false},
		{"one that shares the first month", bookOf(forAll(10, 30, 3)), forAll(0, 11, 3), false},
		{"one that is far apart", bookOf(forAll(10, 30, 3)), forAll(3000, monthEnd, 3), true},
		{"one that fills a gap", bookOf(forAll(10, 30, 3), forAll(31, 40, 3)), forAll(30, 31, 3), true},
		{"one that is too long for a gap", bookOf(forAll(10, 30, 3), forAll(31, 40, 3)), forAll(30, 32, 3), false},
		{"the same months with a higher rank", bookOf(forAll(10, 30, 3)), forAll(10, 30, 4), true},
		{"the same months with a lower rank", bookOf(forAll(10, 30, 3)), forAll(10, 30, 2), true},
		{"the same months with another name", bookOf(forAll(10, 30, 3)), plainRule(2, 10, 30, monthEnd, 3), true},
		{"the same months for other members", bookOf(forAll(10, 30, 3)), plainRule(1, 10, 30, 5, 3), false},
		{"to a book with a common month", bookOf(forAll(10, 30, 3), forAll(20, 40, 3)), plainRule(2, 0, 1, 1, 0), false},
		{"to a book with an invalid rule", bookOf(forAll(10, 30, 3), impl.Rule{}), plainRule(2, 0, 1, 1, 0), false},
		{"a rule without a formula", bookOf(forAll(10, 30, 3)), withNodes(nil)[0], false},
	} {
		if _, ok := impl.AddRule(c.b, c.r); ok != c.want {
			t.Errorf("%s: AddRule(%v, %v) = %v, want %v", c.name, c.b, c.r, ok, c.want)
		}
		checkAdd(t, c.name, c.b, c.r)
	}
}

type ruleCase struct {
	m, joined int
	want      int
}

// checkRules compares RuleFor for the name 1 with the wanted indexes.
func checkRules(t *testing.T, name string, b impl.Book, cases []ruleCase) {
	t.Helper()
	for _, c := range cases {
		if got := impl.RuleFor(b, 1, c.m, c.joined); got != c.want {
			t.Errorf("%s: RuleFor(1, %d, %d) = %d, want %d", name, c.m, c.joined, got, c.want)
		}
	}
}

func TestRuleForMonths(t *testing.T) {
	checkRules(t, "one rule", bookOf(forAll(10, 30, 0)), []ruleCase{
		{9, 5, -1}, {10, 5, 0}, {11, 5, 0}, {28, 5, 0}, {29, 5, 0}, {30, 5, -1}, {31, 5, -1}, {0, 5, -1}, {impl.MaxMonth, 5, -1},
	})
	checkRules(t, "the first month", bookOf(forAll(0, 1, 9)), []ruleCase{{-1, 5, -1}, {0, 5, 0}, {1, 5, -1}, {2, 5, -1}})
	checkRules(t, "the last month", bookOf(forAll(impl.MaxMonth, monthEnd, 9)), []ruleCase{
		{impl.MaxMonth - 1, 5, -1}, {impl.MaxMonth, 5, 0}, {monthEnd, 5, -1}, {monthEnd + 1, 5, -1}, {0, 5, -1},
	})
	checkRules(t, "all months", bookOf(forAll(0, monthEnd, 4)), []ruleCase{
		{-1, 5, -1}, {0, 5, 0}, {1800, 5, 0}, {impl.MaxMonth, 5, 0}, {monthEnd, 5, -1}, {math.MinInt, 5, -1}, {math.MaxInt, 5, -1},
	})
	checkRules(t, "rules that touch", bookOf(forAll(20, 30, 4), forAll(10, 20, 4), forAll(30, monthEnd, 4)), []ruleCase{
		{9, 5, -1}, {10, 5, 1}, {19, 5, 1}, {20, 5, 0}, {29, 5, 0}, {30, 5, 2}, {impl.MaxMonth, 5, 2}, {monthEnd, 5, -1},
	})
	checkRules(t, "rules that are far apart", bookOf(forAll(10, 20, 4), forAll(3000, 3010, 4)), []ruleCase{
		{19, 5, 0}, {20, 5, -1}, {2999, 5, -1}, {3000, 5, 1}, {3009, 5, 1}, {3010, 5, -1},
	})
	checkRules(t, "the empty book", impl.Book{}, []ruleCase{{0, 0, -1}, {10, 5, -1}, {impl.MaxMonth, impl.MaxMonth, -1}})
}

// TestRuleForJoined asks for members who joined around the month Joined and at the ends of the range.
func TestRuleForJoined(t *testing.T) {
	for _, c := range []struct {
		limit int
		with  []int
		not   []int
	}{
		{1, []int{0, -1, math.MinInt}, []int{1, 2, impl.MaxMonth, monthEnd, math.MaxInt}},
		{2, []int{0, 1, -1}, []int{2, 3, impl.MaxMonth}},
		{500, []int{0, 1, 498, 499, -1, math.MinInt}, []int{500, 501, 502, impl.MaxMonth, monthEnd, math.MaxInt}},
		{impl.MaxMonth, []int{0, impl.MaxMonth - 2, impl.MaxMonth - 1, -1}, []int{impl.MaxMonth, monthEnd, monthEnd + 1, math.MaxInt}},
		{monthEnd, []int{0, impl.MaxMonth - 1, impl.MaxMonth, -1, math.MinInt}, []int{monthEnd, monthEnd + 1, math.MaxInt}},
	} {
		// in the months of the rule before and after the month in which the member joined
		for _, months := range [][2]int{{0, monthEnd}, {10, 30}, {impl.MaxMonth, monthEnd}} {
			b := bookOf(plainRule(1, months[0], months[1], c.limit, 3))
			for _, m := range []int{months[0], (months[0] + months[1]) / 2, months[1] - 1} {
				for _, joined := range c.with {
					checkRules(t, "joined early enough", b, []ruleCase{{m, joined, 0}, {months[0] - 1, joined, -1}, {months[1], joined, -1}})
				}
				for _, joined := range c.not {
					checkRules(t, "joined too late", b, []ruleCase{{m, joined, -1}})
				}
			}
		}
	}
	checkRules(t, "a rule of a higher rank for earlier members", bookOf(forAll(0, monthEnd, 0), plainRule(1, 20, 30, 10, 2)), []ruleCase{
		{25, 9, 1}, {25, 10, 0}, {25, 11, 0}, {25, 0, 1}, {25, impl.MaxMonth, 0}, {19, 9, 0}, {20, 9, 1}, {29, 9, 1}, {30, 9, 0},
	})
	checkRules(t, "a rule of a lower rank for earlier members", bookOf(forAll(0, 25, 2), plainRule(1, 20, 30, 10, 1)), []ruleCase{
		{19, 9, 0}, {24, 9, 0}, {25, 9, 1}, {29, 9, 1}, {30, 9, -1}, {24, 10, 0}, {25, 10, -1},
	})
}

// TestRuleForEveryOrder asks books with the same rules in every order of the list.
func TestRuleForEveryOrder(t *testing.T) {
	rules := []impl.Rule{forAll(0, 50, 0), plainRule(1, 20, 30, 10, 9), plainRule(1, 10, 40, 20, 4), plainRule(2, 0, monthEnd, monthEnd, 7), forAll(28, 33, 5)}
	wanted := func(m int, joined int) int {
		switch {
		case 20 <= m && m < 30 && joined < 10:
			return 1
		case 28 <= m && m < 33:
			return 4
		case 10 <= m && m < 40 && joined < 20:
			return 2
		case 0 <= m && m < 50:
			return 0
		}
		return -1
	}
	for _, order := range orders(len(rules)) {
		var b impl.Book
		places := map[int]int{-1: -1}
		for i, k := range order {
			b.Rules = append(b.Rules, rules[k])
			places[k] = i
		}
		for m := -1; m < 52; m++ {
			for _, joined := range []int{0, 9, 10, 19, 20, impl.MaxMonth} {
				if got, want := impl.RuleFor(b, 1, m, joined), places[wanted(m, joined)]; got != want {
					t.Errorf("RuleFor(%v, 1, %d, %d) = %d, want %d", b, m, joined, got, want)
				}
				if got := impl.RuleFor(b, 2, m, joined); m >= 0 && got != places[3] {
					t.Errorf("RuleFor(%v, 2, %d, %d) = %d, want %d", b, m, joined, got, places[3])
				}
			}
		}
	}
}

// orders holds every order of the numbers below count.
func orders(count int) [][]int {
	if count == 0 {
		return [][]int{nil}
	}
	var list [][]int
	for _, shorter := range orders(count - 1) {
		for at := range count {
			list = append(list, slices.Insert(slices.Clone(shorter), at, count-1))
		}
	}
	return list
}

// TestRuleForEveryRank uses rules with all the ranks at once, of which the greatest ones are left out
// one after the other.
func TestRuleForEveryRank(t *testing.T) {
	random := rand.New(rand.NewSource(10))
	for count := 1; count <= greatestRank+1; count++ {
		for range 20 {
			rules := stackedRules()[:count]
			random.Shuffle(count, func(i int, k int) { rules[i], rules[k] = rules[k], rules[i] })
			at := impl.RuleFor(bookOf(rules...), 1, 20, 5)
			if at < 0 || at >= count || rules[at].Rank != count-1 {
				t.Errorf("RuleFor with %v = %d", rules, at)
			}
		}
	}
}

func TestRuleForNames(t *testing.T) {
	var rules []impl.Rule
	for name := 1; name <= greatestName; name++ {
		rules = append(rules, plainRule(name, 10, 30, monthEnd, name%10))
	}
	for name := 1; name <= greatestName; name++ {
		if got := impl.RuleFor(bookOf(rules...), name, 20, 5); got != name-1 {
			t.Errorf("RuleFor the name %d = %d, want %d", name, got, name-1)
		}
		others := slices.Delete(slices.Clone(rules), name-1, name)
		if got := impl.RuleFor(bookOf(others...), name, 20, 5); got != -1 {
			t.Errorf("RuleFor the name %d that no rule has = %d", name, got)
		}
	}
}

func noNames() []int {
	return []int{0, -1, -2, greatestName + 1, greatestName + 2, 1<<8 + 1, 1<<32 + 1, math.MaxInt, math.MinInt}
}

// TestRulesNotFound uses names, months and joining months outside every range: they have no rule.
func TestRulesNotFound(t *testing.T) {
	for _, b := range validBooks() {
		for _, name := range noNames() {
			checkNoRule(t, b, name, 20, 5)
			if got := impl.GapsIn(b, name, 5, 8, 12); !slices.Equal(got, []int{8, 9, 10, 11}) {
				t.Errorf("GapsIn(%v, %d, 5, 8, 12) = %v", b, name, got)
			}
		}
		for name := 1; name <= 3; name++ {
			for _, m := range noMonths() {
				checkNoRule(t, b, name, m, 0)
			}
			for _, joined := range []int{monthEnd, monthEnd + 1, 1 << 32, math.MaxInt} {
				checkNoRule(t, b, name, 20, joined)
				if got := impl.GapsIn(b, name, joined, 19, 22); !slices.Equal(got, []int{19, 20, 21}) {
					t.Errorf("GapsIn(%v, %d, %d, 19, 22) = %v", b, name, joined, got)
				}
			}
			// a member who joined before the first month has the rules of one who joined in it
			for _, joined := range []int{-1, -12, -1 << 32, math.MinInt} {
				if got, want := impl.RuleFor(b, name, 20, joined), wantedRule(b, name, 20, 0); got != want {
					t.Errorf("RuleFor(%v, %d, 20, %d) = %d, want %d", b, name, joined, got, want)
				}
				if got, want := impl.IsProtected(b, name, 20, joined), wantedProtection(b, name, 20, 0); got != want {
					t.Errorf("IsProtected(%v, %d, 20, %d) = %v, want %v", b, name, joined, got, want)
				}
				if got, want := impl.GapsIn(b, name, joined, 9, 31), wantedGaps(b, name, 0, 9, 31); !slices.Equal(got, want) {
					t.Errorf("GapsIn(%v, %d, %d, 9, 31) = %v, want %v", b, name, joined, got, want)
				}
				checkFigure(t, "joined before the first month", b, name, 20, joined, evalVars())
			}
		}
	}
}

// checkNoRule wants no function to find a rule.
func checkNoRule(t *testing.T, b impl.Book, name int, m int, joined int) {
	t.Helper()
	if got := impl.RuleFor(b, name, m, joined); got != -1 {
		t.Errorf("RuleFor(%v, %d, %d, %d) = %d, want -1", b, name, m, joined, got)
	}
	if impl.IsProtected(b, name, m, joined) {
		t.Errorf("IsProtected(%v, %d, %d, %d) = true", b, name, m, joined)
	}
	if figure, at, ok := impl.Figure(b, name, m, joined, evalVars()); figure != 0 || at != 0 || ok {
		t.Errorf("Figure(%v, %d, %d, %d) = %d, %d, %v, want 0, 0, false", b, name, m, joined, figure, at, ok)
	}
}

func TestRulesOfInvalidBooks(t *testing.T) {
	for _, b := range invalidBooks() {
		for _, name := range []int{0, 1, 3, greatestName} {
			for _, m := range []int{0, 10, 15, 19, 29, impl.MaxMonth} {
				checkNoRule(t, b, name, m, 0)
			}
			if got := impl.GapsIn(b, name, 0, 0, 20); len(got) != 0 {
				t.Errorf("GapsIn(%v, %d, 0, 0, 20) = %v, want nil", b, name, got)
			}
		}
	}
}

func TestGapsIn(t *testing.T) {
	b := bookOf(forAll(20, 30, 0), plainRule(1, 25, 40, 10, 5), forAll(45, 46, 0), plainRule(2, 0, monthEnd, monthEnd, 9))
	for _, c := range []struct {
		name     string
		joined   int
		from, to int
		want     []int
	}{
		{"around the first rule", 10, 18, 22, []int{18, 19}},
		{"around its end", 10, 28, 32, []int{30, 31}},
		{"around its end, for an earlier member", 9, 28, 32, nil},
		{"around the end of the second rule", 9, 38, 42, []int{40, 41}},
		{"around one month", 10, 44, 47, []int{44, 46}},
		{"one month with a rule", 10, 45, 46, nil},
		{"one month without a rule", 10, 46, 47, []int{46}},
		{"from equal to to, with a rule", 10, 25, 25, nil},
		{"from equal to to, without a rule", 10, 50, 50, nil},
		{"from greater than to", 10, 50, 48, nil},
		{"from the end to the beginning", 10, monthEnd, 0, nil},
		{"the first months", 10, 0, 3, []int{0, 1, 2}},
		{"the last months", 10, 3597, monthEnd, []int{3597, 3598, 3599}},
		{"from MaxMonth", 10, impl.MaxMonth, monthEnd, []int{3599}},
		{"from MaxMonth+1", 10, monthEnd, monthEnd, nil},
		{"no month at the beginning", 10, 0, 0, nil},
		{"joined in the last month", impl.MaxMonth, 29, 32, []int{30, 31}},
		{"joined after the last month", monthEnd, 29, 32, []int{29, 30, 31}},
	} {
		if got := impl.GapsIn(b, 1, c.joined, c.from, c.to); !slices.Equal(got, c.want) {
			t.Errorf("%s: GapsIn(%d, %d, %d) = %v, want %v", c.name, c.joined, c.from, c.to, got, c.want)
		}
	}
	for _, joined := range []int{0, 9, 10, impl.MaxMonth, monthEnd} {
		for name := range 4 {
			if got, want := impl.GapsIn(b, name, joined, 0, monthEnd), wantedGaps(b, name, joined, 0, monthEnd); !slices.Equal(got, want) {
				t.Errorf("GapsIn(%d, %d, 0, %d) = %v, want %v", name, joined, monthEnd, got, want)
			}
		}
	}
}

func TestGapsInWhole(t *testing.T) {
	for _, c := range []struct {
		name string
		b    impl.Book
		want int
	}{
		{"the empty book", impl.Book{}, 3600},
		{"a rule for all months", bookOf(forAll(0, monthEnd, 3)), 0},
		{"a rule for all months but the first", bookOf(forAll(1, monthEnd, 3)), 1},
		{"a rule for all months but the last", bookOf(forAll(0, impl.MaxMonth, 3)), 1},
		{"two rules that touch", bookOf(forAll(1800, monthEnd, 3), forAll(0, 1800, 3)), 0},
		{"two rules that do not touch", bookOf(forAll(1801, monthEnd, 3), forAll(0, 1800, 3)), 1},
		{"rules with a common month", bookOf(forAll(1799, monthEnd, 2), forAll(0, 1800, 3)), 0},
		{"a rule of another name", bookOf(plainRule(2, 0, monthEnd, monthEnd, 3)), 3600},
		{"a rule for earlier members", bookOf(plainRule(1, 0, monthEnd, 100, 3)), 3600},
		{"MaxRules rules", bookOf(touchingRules(mostRules)...), 3540},
	} {
		got := impl.GapsIn(c.b, 1, 100, 0, monthEnd)
		if len(got) != c.want || !slices.Equal(got, wantedGaps(c.b, 1, 100, 0, monthEnd)) {
			t.Errorf("%s: GapsIn has %d months, want %d", c.name, len(got), c.want)
		}
	}
}

func TestGapsInInvalidMonths(t *testing.T) {
	for _, b := range []impl.Book{{}, protecting()} {
		for _, bad := range noMonthEnds() {
			for _, c := range [][2]int{{bad, 20}, {10, bad}, {bad, bad}, {bad, bad + 3}, {0, bad}, {bad, monthEnd}} {
				if got := impl.GapsIn(b, 5, 0, c[0], c[1]); len(got) != 0 {
					t.Errorf("GapsIn from %d to %d has %d months, want none", c[0], c[1], len(got))
				}
			}
		}
	}
}

func TestIsProtected(t *testing.T) {
	for _, c := range []struct {
		name      string
		m, joined int
		want      bool
	}{
		{"another rule", 20, 9, true},
		{"another rule, for the first member", 29, 0, true},
		{"the same rule before the months of the other one", 19, 9, false},
		{"the same rule after the months of the other ones", 33, 9, false},
		{"joined in the month Joined", 20, 10, false},
		{"joined in the month after it", 20, 11, false},
		{"a rule of a still higher rank", 28, 9, true},
		{"a rule of a higher rank for other members", 28, 19, true},
		{"joined too late for both", 28, 20, false},
		{"a rule of a lower rank", 26, 15, false},
		{"a rule of a lower rank where there is no other one", 50, 39, true},
		{"the same, in its last month", 59, 39, true},
		{"the same, after its last month", 60, 39, false},
		{"the same, joined too late", 50, 40, false},
		{"no rule", 65, 0, false},
		{"the rule for all members alone", 70, 0, false},
		{"all members but those of the last month", 75, impl.MaxMonth - 1, true},
		{"those of the last month", 75, impl.MaxMonth, false},
		{"those after the last month", 75, monthEnd, false},
		{"those before the first month", 75, -1, true},
		{"no month before the first one", -1, 0, false},
		{"no month after the last one", monthEnd, 0, false},
	} {
		if got := impl.IsProtected(protecting(), 1, c.m, c.joined); got != c.want || got != wantedProtection(protecting(), 1, c.m, c.joined) {
			t.Errorf("%s: IsProtected(1, %d, %d) = %v", c.name, c.m, c.joined, got)
		}
	}
	for _, m := range []int{0, 1800, impl.MaxMonth} {
		if !impl.IsProtected(protecting(), 2, m, 0) || impl.IsProtected(protecting(), 2, m, 1) || impl.IsProtected(protecting(), 3, m, 0) {
			t.Errorf("IsProtected in month %d is wrong for a rule of members who joined in month 0", m)
		}
	}
}

// checkFigure compares Figure with the exact value of the formula, and its rounding with the
// description of the modes.
func checkFigure(t *testing.T, name string, b impl.Book, figure int, m int, joined int, vars []impl.Frac) {
	t.Helper()
	got, at, ok := impl.Figure(b, figure, m, joined, vars)
	wantAt := wantedRule(b, figure, m, joined)
	wantOk := wantAt >= 0 && len(vars) == mostVars && !slices.ContainsFunc(vars, func(a impl.Frac) bool { return a.Den <= 0 || !isLowest(a) })
	var values []impl.Frac
	if wantOk {
		values, wantOk = exactValues(b.Rules[wantAt].Nodes, vars)
	}
	if !wantOk {
		if got != 0 || at != 0 || ok {
			t.Errorf("%s: Figure(%v, %d, %d, %d, %v) = %d, %d, %v, want 0, 0, false", name, b, figure, m, joined, vars, got, at, ok)
		}
		return
	}
	if value := values[len(values)-1]; !ok || at != wantAt || !isRounded(value, b.Rules[at].Mode, got) {
		t.Errorf("%s: Figure(%v, %d, %d, %d, %v) = %d, %d, %v, want %v rounded, %d, true", name, b, figure, m, joined, vars, got, at, ok, value, wantAt)
	}
}

// varsWith holds variables of which the first one has this value.
func varsWith(value impl.Frac) []impl.Frac {
	vars := evalVars()
	vars[0] = value
	return vars
}

func TestFigureModes(t *testing.T) {
	for _, c := range []struct {
		value impl.Frac
		want  [4]int
	}{
		{frac(0, 1), [4]int{0, 0, 0, 0}}, {frac(5, 1), [4]int{5, 5, 5, 5}}, {frac(-5, 1), [4]int{-5, -5, -5, -5}},
		{frac(1, 2), [4]int{0, 1, 1, 0}}, {frac(3, 2), [4]int{1, 2, 2, 2}}, {frac(5, 2), [4]int{2, 3, 3, 2}}, {frac(7, 2), [4]int{3, 4, 4, 4}},
		{frac(-1, 2), [4]int{-1, 0, 0, 0}}, {frac(-3, 2), [4]int{-2, -1, -1, -2}}, {frac(-5, 2), [4]int{-3, -2, -2, -2}}, {frac(-7, 2), [4]int{-4, -3, -3, -4}},
		{frac(7, 3), [4]int{2, 3, 2, 2}}, {frac(8, 3), [4]int{2, 3, 3, 3}}, {frac(-7, 3), [4]int{-3, -2, -2, -2}}, {frac(-8, 3), [4]int{-3, -2, -3, -3}},
		{frac(1, impl.MaxDen), [4]int{0, 1, 0, 0}}, {frac(-1, impl.MaxDen), [4]int{-1, 0, 0, 0}},
		{frac(impl.MaxNum, 1), [4]int{impl.MaxNum, impl.MaxNum, impl.MaxNum, impl.MaxNum}}, {frac(-impl.MaxNum, 1), [4]int{-impl.MaxNum, -impl.MaxNum, -impl.MaxNum, -impl.MaxNum}},
	} {
		for i, mode := range roundingModes() {
			r := ruleWith(forAll(10, 30, 3), func(r *impl.Rule) { r.Mode = mode })
			// the index of the rule is another one, and the rules beside it have other modes
			b := bookOf(ruleWith(forAll(10, 30, 2), func(r *impl.Rule) { r.Mode = 5 - mode }), r, ruleWith(forAll(10, 30, 1), func(r *impl.Rule) { r.Mode = 1 + mode%4 }))
			if got, at, ok := impl.Figure(b, 1, 20, 5, varsWith(c.value)); got != c.want[i] || at != 1 || !ok {
				t.Errorf("Figure of %v with mode %d = %d, %d, %v, want %d, 1, true", c.value, mode, got, at, ok, c.want[i])
			}
			checkFigure(t, "a mode", b, 1, 20, 5, varsWith(c.value))
		}
	}
}

// TestFigureRule gives each rule a value of its own, so that the figure tells which one it is.
func TestFigureRule(t *testing.T) {
	b := protecting()
	for i := range b.Rules {
		b.Rules[i].Nodes = formula(constNode(-20*i-31, 10), varNode(1), opNode(impl.NdAdd, 0, 1))
		b.Rules[i].Mode = 1 + i%4
	}
	for _, c := range []struct {
		name, m, joined int
		want, at        int
		ok              bool
	}{
		{1, 0, 5, -3, 0, true}, {1, 20, 9, -4, 1, true}, {1, 20, 10, -3, 0, true}, {1, 50, 39, -6, 2, true}, {1, 28, 19, -8, 3, true},
		{2, 20, 0, -11, 4, true}, {1, 79, 9, -12, 5, true}, {1, 75, 9, -14, 6, true},
		{1, 50, 40, 0, 0, false}, {2, 20, 1, 0, 0, false}, {1, 65, 0, 0, 0, false}, {1, impl.MaxMonth, 0, 0, 0, false}, {3, 20, 0, 0, 0, false},
	} {
		if got, at, ok := impl.Figure(b, c.name, c.m, c.joined, evalVars()); got != c.want || at != c.at || ok != c.ok {
			t.Errorf("Figure(%d, %d, %d) = %d, %d, %v, want %d, %d, %v", c.name, c.m, c.joined, got, at, ok, c.want, c.at, c.ok)
		}
		checkFigure(t, "a rule", b, c.name, c.m, c.joined, evalVars())
	}
}

// TestFigureNoValue uses a formula that has no value, in rules beside one that has one.
func TestFigureNoValue(t *testing.T) {
	without := [][]impl.Node{
		formula(varNode(1), varNode(0), opNode(impl.NdDiv, 0, 1)),
		formula(varNode(1), varNode(0), opNode(impl.NdDiv, 0, 1), pickNode(0, 0, 2)),
		formula(varNode(1), varNode(0), opNode(impl.NdDiv, 0, 1), constNode(4, 1)),
		formula(varNode(4), opNode(impl.NdAdd, 0, 0)),
		formula(varNode(4), opNode(impl.NdMul, 0, 0)),
	}
	for _, nodes := range without {
		bad := ruleWith(forAll(10, 30, 3), func(r *impl.Rule) { r.Nodes = nodes })
		for _, c := range []struct {
			name string
			b    impl.Book
			at   int
			ok   bool
		}{
			{"alone", bookOf(bad), 0, false},
			{"with a higher rank", bookOf(forAll(10, 30, 2), bad), 0, false},
			{"with a lower rank", bookOf(bad, forAll(10, 30, 4)), 1, true},
			{"with a lower rank, behind the other rule", bookOf(forAll(10, 30, 4), bad), 0, true},
			{"of another name", bookOf(ruleWith(bad, func(r *impl.Rule) { r.Name = 2 }), forAll(10, 30, 1)), 1, true},
			{"for earlier members", bookOf(ruleWith(bad, func(r *impl.Rule) { r.Joined = 5 }), forAll(10, 30, 1)), 1, true},
			{"in other months", bookOf(ruleWith(bad, func(r *impl.Rule) { r.To = 20 }), forAll(10, 30, 1)), 1, true},
		} {
			if got, at, ok := impl.Figure(c.b, 1, 20, 5, evalVars()); got != 0 || at != c.at || ok != c.ok {
				t.Errorf("%s: Figure = %d, %d, %v, want 0, %d, %v", c.name, got, at, ok, c.at, c.ok)
			}
			checkFigure(t, c.name, c.b, 1, 20, 5, evalVars())
		}
	}
}

// TestFigureInvalidVars uses variables that are not valid, whether the formula uses them or not.
func TestFigureInvalidVars(t *testing.T) {
	for _, nodes := range [][]impl.Node{formula(varNode(0)), formula(varNode(7)), formula(constNode(7, 2)), growing(mostNodes)} {
		b := bookOf(plainRule(2, 0, monthEnd, monthEnd, 0), ruleWith(forAll(10, 30, 3), func(r *impl.Rule) { r.Nodes = nodes }))
		lists := [][]impl.Frac{nil, {}, evalVars()[:1], evalVars()[:mostVars-1], append(evalVars(), frac(1, 1)), append(evalVars(), evalVars()...)}
		for number := range mostVars {
			for _, bad := range invalidFracs() {
				lists = append(lists, slices.Replace(evalVars(), number, number+1, bad))
			}
		}
		for _, vars := range lists {
			if figure, at, ok := impl.Figure(b, 1, 20, 5, vars); figure != 0 || at != 0 || ok {
				t.Errorf("Figure with the variables %v = %d, %d, %v, want 0, 0, false", vars, figure, at, ok)
			}
			checkFigure(t, "invalid variables", b, 1, 20, 5, vars)
		}
		checkFigure(t, "valid variables", b, 1, 20, 5, evalVars())
	}
}

// randomRule has months close to those of others, so that many rules apply in one month.
func randomRule(random *rand.Rand) impl.Rule {
	from := random.Intn(12)
	joined := []int{1 + random.Intn(12), impl.MaxMonth, monthEnd, monthEnd}[random.Intn(4)]
	nodes := randomFormula(random, 1+random.Intn(5))
	return impl.Rule{Name: 1 + random.Intn(2), From: from, To: from + 1 + random.Intn(6), Joined: joined, Rank: random.Intn(4), Mode: 1 + random.Intn(4), Nodes: nodes}
}

func TestRandomBooks(t *testing.T) {
	random := rand.New(rand.NewSource(10))
	valid, figures := 0, 0
	const rounds = 250
	for range rounds {
		var b impl.Book
		for range random.Intn(mostRules + 2) {
			r := randomRule(random)
			checkAdd(t, "a random rule", b, r)
			if larger := bookOf(append(slices.Clone(b.Rules), r)...); bookValid(larger) || random.Intn(40) == 0 {
				b = larger
			}
		}
		if got := impl.BookOk(b); got != bookValid(b) {
			t.Errorf("BookOk(%v) = %v", b, got)
		} else if got {
			valid++
		}
		for range 30 {
			name, m, joined, vars := random.Intn(4), random.Intn(20)-1, []int{random.Intn(14) - 1, impl.MaxMonth - 1, impl.MaxMonth, monthEnd}[random.Intn(4)], randomVars(random)
			checkRuleOfMonth(t, b, name, m, joined)
			checkFigure(t, "a random book", b, name, m, joined, vars)
			if _, _, ok := impl.Figure(b, name, m, joined, vars); ok {
				figures++
			}
			from, to := random.Intn(20), random.Intn(20)
			if got, want := impl.GapsIn(b, name, joined, from, to), wantedGaps(b, name, joined, from, to); !slices.Equal(got, want) {
				t.Errorf("GapsIn(%v, %d, %d, %d, %d) = %v, want %v", b, name, joined, from, to, got, want)
			}
		}
	}
	if valid < rounds/2 || valid == rounds || figures < rounds {
		t.Errorf("of %d random books, %d are valid, with %d figures", rounds, valid, figures)
	}
}

// checkRuleOfMonth checks the promise: the rule of a month contains it, is one for the member and
// has the greatest rank, and there is none only if no rule is like that.
func checkRuleOfMonth(t *testing.T, b impl.Book, name int, m int, joined int) {
	t.Helper()
	at := impl.RuleFor(b, name, m, joined)
	if want := wantedRule(b, name, m, joined); at != want {
		t.Errorf("RuleFor(%v, %d, %d, %d) = %d, want %d", b, name, m, joined, at, want)
		return
	}
	if got, want := impl.IsProtected(b, name, m, joined), wantedProtection(b, name, m, joined); got != want {
		t.Errorf("IsProtected(%v, %d, %d, %d) = %v, want %v", b, name, m, joined, got, want)
	}
	for i, r := range b.Rules {
		applies := r.Name == name && impl.MonthsIn(r.From, r.To, max(m, 0), max(m, 0)+1) == 1 && m >= 0 && joined < r.Joined
		if i == at && !applies || bookValid(b) && applies && (at < 0 || b.Rules[at].Rank < r.Rank) {
			t.Errorf("RuleFor(%v, %d, %d, %d) = %d, but the rule %d applies: %v", b, name, m, joined, at, i, applies)
		}
	}
}

// TestRulesAreIndependent adds rules that cannot count in the months of the others, which keep
// their rules and figures.
func TestRulesAreIndependent(t *testing.T) {
	random := rand.New(rand.NewSource(101))
	for range 100 {
		b := protecting()
		for range 1 + random.Intn(6) {
			m, joined := random.Intn(90), random.Intn(45)
			at := impl.RuleFor(b, 1, m, joined)
			other := []impl.Rule{plainRule(3, 0, monthEnd, monthEnd, 9), forAll(m+1, monthEnd, 9), plainRule(1, 0, monthEnd, joined, 9), forAll(0, monthEnd, 0)}[random.Intn(4)]
			larger, ok := impl.AddRule(b, other)
			if !ok {
				continue
			}
			want := at
			if other.Name == 1 && other.Rank == 0 && at == -1 {
				want = len(b.Rules)
			}
			if got := impl.RuleFor(larger, 1, m, joined); got != want {
				t.Errorf("RuleFor(1, %d, %d) with %v = %d, want %d", m, joined, other, got, want)
			}
			b = larger
		}
	}
}

// markNode and markRule are in no book of the tests.
func markNode() impl.Node { return impl.Node{Kind: -1, A: -2, B: -3, C: -4, Value: frac(-5, -6)} }

func markRule() impl.Rule { return impl.Rule{Name: -7, From: -8, Nodes: formula(markNode())} }

// ruleWithRoom returns a copy of r whose nodes have room behind them, filled with a mark.
func ruleWithRoom(r impl.Rule) impl.Rule {
	r.Nodes = withRoom(r.Nodes, markNode())
	return r
}

// bookWithRoom returns a copy of b whose rules and their nodes have room behind them, filled with marks.
func bookWithRoom(b impl.Book) impl.Book {
	rules := withRoom(b.Rules, markRule())
	for i, r := range rules {
		rules[i] = ruleWithRoom(r)
	}
	return impl.Book{Rules: rules}
}

func isRuleWithRoom(given impl.Rule, r impl.Rule) bool {
	return numbersOf(given) == numbersOf(r) && isWithRoom(given.Nodes, r.Nodes, markNode())
}

// isBookWithRoom reports whether given and the room behind its slices are as bookWithRoom made them.
func isBookWithRoom(given impl.Book, b impl.Book) bool {
	room := given.Rules[len(given.Rules):cap(given.Rules)]
	return slices.EqualFunc(given.Rules, b.Rules, isRuleWithRoom) && slices.EqualFunc(room, slices.Repeat([]impl.Rule{markRule()}, 4), sameRule)
}

func copyOfBook(b impl.Book) impl.Book {
	var copied impl.Book
	for _, r := range b.Rules {
		copied.Rules = append(copied.Rules, ruleWith(r, func(*impl.Rule) {}))
	}
	return copied
}

// overwriteBook changes the nodes of one rule after the other, with the room behind them, and then
// the rules. It reports whether no rule shared its nodes with a later one.
func overwriteBook(b impl.Book) bool {
	apart := true
	want := copyOfBook(b)
	for i, r := range b.Rules {
		overwriteAll(r.Nodes, markNode())
		apart = apart && slices.EqualFunc(b.Rules[i+1:], want.Rules[i+1:], sameRule)
	}
	overwriteAll(b.Rules, markRule())
	return apart
}

// sharingBooks holds books of every kind that counts for the memory of a result.
func sharingBooks() []impl.Book {
	return slices.Concat(invalidBooks()[:3], []impl.Book{
		{}, protecting(), bookOf(forAll(10, 30, 3)), bookOf(forAll(10, 30, 3), forAll(20, 40, 3)),
		bookOf(distinctRules(mostRules - 1)...), bookOf(distinctRules(mostRules)...), bookOf(distinctRules(mostRules + 1)...),
	})
}

func TestAddRuleSharesNoMemory(t *testing.T) {
	for _, b := range sharingBooks() {
		for _, r := range []impl.Rule{plainRule(7, 0, 9, 1, 9), forAll(25, 35, 3), {}, withNodes(growing(mostNodes))[0], withNodes(growing(mostNodes + 1))[0]} {
			given, givenRule := bookWithRoom(b), ruleWithRoom(r)
			one, oneOk := impl.AddRule(given, givenRule)
			other, otherOk := impl.AddRule(given, givenRule)
			want := copyOfBook(one)
			if !overwriteBook(one) {
				t.Errorf("rules of AddRule(%v, %v) share their nodes", b, r)
			}
			if oneOk != otherOk || !isBookWithRoom(given, b) || !isRuleWithRoom(givenRule, r) || !sameBook(other, want) {
				t.Errorf("AddRule changes its arguments %v and %v, or a change of its result changes them or another result", b, r)
			}
			overwriteAll(givenRule.Nodes, markNode())
			overwriteBook(given)
			if !sameBook(other, want) {
				t.Errorf("AddRule returns memory of its arguments %v and %v", b, r)
			}
		}
	}
}

// TestAddRuleSeparatesNodes uses books whose rules share their nodes with one another, with the rule
// that is added, or as neighbours in one array.
func TestAddRuleSeparatesNodes(t *testing.T) {
	for _, count := range []int{1, 2, mostRules - 1, mostRules, mostRules + 1} {
		for _, added := range []impl.Rule{plainRule(7, 50, 60, 1, 9), {}} {
			nodes := slices.Repeat(formula(varNode(1), varNode(0)), mostRules+2)
			shared, neighbours := bookOf(distinctRules(count)...), bookOf(distinctRules(count)...)
			for i := range count {
				shared.Rules[i].Nodes = nodes[:2]
				neighbours.Rules[i].Nodes = nodes[2*i : 2*i+2]
			}
			for _, b := range []impl.Book{shared, neighbours} {
				r := added
				r.Nodes = nodes[:2]
				want := copyOfBook(b)
				if impl.RuleOk(r) && count < mostRules {
					want.Rules = append(want.Rules, ruleWith(r, func(*impl.Rule) {}))
				}
				got, _ := impl.AddRule(b, r)
				if !sameBook(got, want) {
					t.Errorf("AddRule(%v, %v) = %v, want %v", b, r, got, want)
				}
				if !overwriteBook(got) || !slices.Equal(nodes, slices.Repeat(formula(varNode(1), varNode(0)), mostRules+2)) {
					t.Errorf("the rules of AddRule(%v, %v) share nodes with one another or with an argument", b, r)
				}
			}
		}
	}
}

func TestGapsShareNoMemory(t *testing.T) {
	for _, b := range sharingBooks() {
		given := bookWithRoom(b)
		one, other := impl.GapsIn(given, 1, 5, 0, 70), impl.GapsIn(given, 1, 5, 0, 70)
		want := slices.Clone(one)
		overwriteAll(one, -1)
		overwriteBook(given)
		if !slices.Equal(other, want) {
			t.Errorf("a change of the gaps in %v changes those of another call", b)
		}
	}
}

func TestBooksAreNotChanged(t *testing.T) {
	for _, b := range slices.Concat(validBooks(), invalidBooks()) {
		given, vars := bookWithRoom(b), withRoom(evalVars(), frac(-7, -8))
		impl.BookOk(given)
		for _, name := range []int{1, 3} {
			impl.RuleFor(given, name, 20, 5)
			impl.IsProtected(given, name, 20, 5)
			impl.Figure(given, name, 20, 5, vars)
			impl.GapsIn(given, name, 5, 0, 40)
		}
		for _, r := range given.Rules {
			impl.RuleOk(r)
		}
		impl.AddRule(given, plainRule(7, 50, 60, 1, 9))
		impl.AddRule(given, impl.Rule{})
		if !isBookWithRoom(given, b) || !isWithRoom(vars, evalVars(), frac(-7, -8)) {
			t.Errorf("a function changes its arguments %v or %v", b, vars)
		}
	}
}
