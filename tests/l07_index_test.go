package tests

import (
	"math"
	"math/rand"
	"slices"
	"testing"

	"loop.example/g00980/impl"
)

// greatestIndex is written as a number here, so that a change of the limit does not change the tests.
const greatestIndex = 1000000

func point(month int, known int, value int) impl.Point {
	return impl.Point{Month: month, Known: known, Value: value}
}

func seriesOf(points ...impl.Point) impl.Series { return impl.Series{Points: points} }

func sameSeries(a impl.Series, b impl.Series) bool { return slices.Equal(a.Points, b.Points) }

// changedPoints holds what change makes of a valid point with each of the numbers.
func changedPoints(numbers []int, change func(p *impl.Point, n int)) []impl.Point {
	var list []impl.Point
	for _, n := range numbers {
		p := point(10, 30, 40)
		change(&p, n)
		list = append(list, p)
	}
	return list
}

func validPoints() []impl.Point {
	return slices.Concat(
		[]impl.Point{point(10, 30, 40), point(0, 0, 1), point(0, impl.MaxMonth, 1), point(impl.MaxMonth, impl.MaxMonth, greatestIndex)},
		changedPoints([]int{0, 1, 29, 30}, func(p *impl.Point, n int) { p.Month = n }),
		changedPoints([]int{10, 11, impl.MaxMonth - 1, impl.MaxMonth}, func(p *impl.Point, n int) { p.Known = n }),
		changedPoints([]int{0, 1, impl.MaxMonth - 1, impl.MaxMonth}, func(p *impl.Point, n int) { p.Month, p.Known = n, n }),
		changedPoints([]int{0, 1, impl.MaxMonth - 1}, func(p *impl.Point, n int) { p.Month, p.Known = n, n+1 }),
		changedPoints([]int{1, 2, greatestIndex - 1, greatestIndex}, func(p *impl.Point, n int) { p.Value = n }),
	)
}

func invalidPoints() []impl.Point {
	return slices.Concat(
		[]impl.Point{{}, point(0, 0, 0), point(math.MinInt, math.MaxInt, 1), point(math.MaxInt, math.MinInt, 1)},
		changedPoints(noMonths(), func(p *impl.Point, n int) { p.Month = n }),
		changedPoints([]int{31, 32, impl.MaxMonth}, func(p *impl.Point, n int) { p.Month = n }),
		changedPoints(noMonths(), func(p *impl.Point, n int) { p.Known = n }),
		changedPoints([]int{0, 8, 9}, func(p *impl.Point, n int) { p.Known = n }),
		changedPoints(noMonths(), func(p *impl.Point, n int) { p.Month, p.Known = n, n }),
		changedPoints([]int{-1, 0, impl.MaxMonth - 1, impl.MaxMonth}, func(p *impl.Point, n int) { p.Month, p.Known = n+1, n }),
		changedPoints([]int{-1, impl.MaxMonth}, func(p *impl.Point, n int) { p.Month, p.Known = n, n+1 }),
		changedPoints([]int{0, -1, -2, -greatestIndex, greatestIndex + 1, greatestIndex + 2, 1 << 32, 1<<32 + 1, -1 << 32, math.MaxInt, math.MinInt},
			func(p *impl.Point, n int) { p.Value = n }),
	)
}

// publishedIn holds valid points that are alike but for the months in which they were published.
func publishedIn(known ...int) []impl.Point {
	return changedPoints(known, func(p *impl.Point, n int) { p.Month, p.Known = 0, n })
}

// manyPoints holds so many valid points, with every Known twice or three times and every Month of
// the even numbers often.
func manyPoints(count int) []impl.Point {
	var points []impl.Point
	for i := range count {
		points = append(points, point(i%40/3*2, 40+i*2/5, i+1))
	}
	return points
}

func validSeries() []impl.Series {
	list := []impl.Series{{}, {Points: []impl.Point{}}}
	for _, p := range validPoints() {
		list = append(list, seriesOf(p), seriesOf(p, p), seriesOf(p, p, p))
	}
	for _, count := range []int{2, 10, impl.MaxFacts - 1, impl.MaxFacts} {
		list = append(list, seriesOf(manyPoints(count)...))
	}
	return append(list,
		seriesOf(publishedIn(0, 0, 0)...),
		seriesOf(publishedIn(0, 1, 2)...),
		seriesOf(publishedIn(5, 5, 6, 6, 6, impl.MaxMonth)...),
		seriesOf(publishedIn(impl.MaxMonth, impl.MaxMonth)...),
		// Month goes down while Known stays and while it grows
		seriesOf(point(9, 9, 1), point(8, 9, 1), point(0, 9, 1)),
		seriesOf(point(9, 9, 1), point(8, 10, 1), point(0, 11, 1)),
	)
}

func invalidSeries() []impl.Series {
	var list []impl.Series
	for _, bad := range invalidPoints() {
		good := point(0, bad.Known, 1)
		list = append(list, seriesOf(bad), seriesOf(bad, good), seriesOf(good, bad), seriesOf(good, bad, good))
	}
	for _, count := range []int{impl.MaxFacts + 1, impl.MaxFacts + 2, 2 * impl.MaxFacts} {
		list = append(list, seriesOf(manyPoints(count)...))
	}
	return append(list,
		seriesOf(publishedIn(1, 0)...),
		seriesOf(publishedIn(impl.MaxMonth, 0)...),
		seriesOf(publishedIn(impl.MaxMonth, impl.MaxMonth-1)...),
		seriesOf(publishedIn(3, 2, 2, 3, 4)...),
		seriesOf(publishedIn(1, 2, 4, 3, 4)...),
		seriesOf(publishedIn(1, 2, 4, 3, 3)...),
		seriesOf(publishedIn(1, 1, 1, 1, 0)...),
		seriesOf(publishedIn(1, 2, 3, 4, 3)...),
		seriesOf(point(3, 8, 1), point(4, 7, 1)),
		seriesOf(point(4, 8, 1), point(3, 7, 1)),
		seriesOf(append(manyPoints(impl.MaxFacts-1), point(0, 0, 1))...),
		seriesOf(append(publishedIn(impl.MaxMonth), manyPoints(impl.MaxFacts-1)...)...),
	)
}

// seriesValid is written apart from the program: a point is valid if its numbers are in order with
// the ends of their ranges.
func seriesValid(s impl.Series) bool {
	var known []int
	for _, p := range s.Points {
		if !slices.IsSorted([]int{0, p.Month, p.Known, 3599}) || !slices.IsSorted([]int{1, p.Value, greatestIndex}) {
			return false
		}
		known = append(known, p.Known)
	}
	return len(s.Points) <= 200 && slices.IsSorted(known)
}

// publishedIndex is written apart from the program: it notes the values of the months, each one in
// place of those before it, and takes the one for the greatest month.
func publishedIndex(s impl.Series, m int, known int) (int, bool) {
	values := map[int]int{}
	var months []int
	for _, p := range s.Points {
		if known >= p.Known {
			values[p.Month] = p.Value
			months = append(months, p.Month)
		}
	}
	slices.Sort(months)
	for _, month := range slices.Backward(months) {
		if m >= month {
			return values[month], true
		}
	}
	return 0, false
}

func TestSeriesOk(t *testing.T) {
	for _, s := range validSeries() {
		if !impl.SeriesOk(s) {
			t.Errorf("SeriesOk(%v) = false", s)
		}
	}
	for _, s := range invalidSeries() {
		if impl.SeriesOk(s) {
			t.Errorf("SeriesOk(%v) = true", s)
		}
	}
}

func TestSeriesOkEveryKnown(t *testing.T) {
	for code := range 4 * 4 * 4 * 4 {
		known := []int{code % 4, code / 4 % 4, code / 16 % 4, code / 64}
		s := seriesOf(publishedIn(known...)...)
		if got := impl.SeriesOk(s); got != slices.IsSorted(known) {
			t.Errorf("SeriesOk with Known %v = %v", known, got)
		}
	}
}

// TestSeriesOkEveryPoint judges every point around the ends of its ranges.
func TestSeriesOkEveryPoint(t *testing.T) {
	months := []int{-2, -1, 0, 1, 2, impl.MaxMonth - 1, impl.MaxMonth, monthEnd, monthEnd + 1}
	for _, month := range months {
		for _, known := range months {
			for _, value := range []int{-1, 0, 1, 2, greatestIndex - 1, greatestIndex, greatestIndex + 1} {
				s := seriesOf(point(month, known, value))
				if got, want := impl.SeriesOk(s), seriesValid(s); got != want {
					t.Errorf("SeriesOk(%v) = %v, want %v", s, got, want)
				}
			}
		}
	}
}

type indexCase struct {
	m, known int
	value    int
	ok       bool
}

func checkIndexes(t *testing.T, name string, s impl.Series, cases []indexCase) {
	t.Helper()
	for _, c := range cases {
		if value, ok := impl.IndexAt(s, c.m, c.known); value != c.value || ok != c.ok {
			t.Errorf("%s: IndexAt(%d, %d) = %d, %v, want %d, %v", name, c.m, c.known, value, ok, c.value, c.ok)
		}
	}
}

func TestIndexAtOnePoint(t *testing.T) {
	checkIndexes(t, "one point", seriesOf(point(10, 30, 40)), []indexCase{
		// a month before the first point, that of the point and months after it
		{9, 30, 0, false}, {0, 30, 0, false}, {10, 30, 40, true}, {11, 30, 40, true}, {30, 30, 40, true}, {impl.MaxMonth, 30, 40, true},
		// not yet known, known in that month and later
		{10, 29, 0, false}, {11, 29, 0, false}, {10, 10, 0, false}, {10, 0, 0, false}, {impl.MaxMonth, 29, 0, false},
		{10, 31, 40, true}, {10, impl.MaxMonth, 40, true}, {9, impl.MaxMonth, 0, false},
		// neither
		{9, 29, 0, false},
	})
	checkIndexes(t, "the first month", seriesOf(point(0, 0, 1)), []indexCase{
		{0, 0, 1, true}, {1, 0, 1, true}, {impl.MaxMonth, 0, 1, true}, {0, impl.MaxMonth, 1, true}, {-1, 0, 0, false}, {0, -1, 0, false},
	})
	checkIndexes(t, "the last month", seriesOf(point(impl.MaxMonth, impl.MaxMonth, greatestIndex)), []indexCase{
		{impl.MaxMonth, impl.MaxMonth, greatestIndex, true},
		{impl.MaxMonth - 1, impl.MaxMonth, 0, false},
		{impl.MaxMonth, impl.MaxMonth - 1, 0, false},
		{0, impl.MaxMonth, 0, false},
	})
	checkIndexes(t, "the empty series", impl.Series{}, []indexCase{{0, 0, 0, false}, {0, impl.MaxMonth, 0, false}, {impl.MaxMonth, impl.MaxMonth, 0, false}})
}

func TestIndexAtRevisions(t *testing.T) {
	checkIndexes(t, "known later", seriesOf(point(2, 3, 10000), point(2, 5, 11000)), []indexCase{
		{2, 2, 0, false}, {2, 3, 10000, true}, {2, 4, 10000, true}, {2, 5, 11000, true}, {2, 6, 11000, true}, {1, 5, 0, false}, {4, 4, 10000, true}, {4, 5, 11000, true},
	})
	checkIndexes(t, "known in the same month", seriesOf(point(2, 3, 90), point(2, 3, 80)), []indexCase{
		{2, 2, 0, false}, {2, 3, 80, true}, {9, 3, 80, true}, {1, 3, 0, false},
	})
	checkIndexes(t, "several, the first value again", seriesOf(point(2, 3, 50), point(2, 4, 90), point(2, 4, 20), point(2, 8, 50), point(2, 9, 1)), []indexCase{
		{2, 3, 50, true}, {2, 4, 20, true}, {2, 7, 20, true}, {2, 8, 50, true}, {2, 9, 1, true}, {impl.MaxMonth, 8, 50, true},
	})
	checkIndexes(t, "the same point again", seriesOf(point(2, 3, 50), point(2, 3, 50)), []indexCase{{2, 3, 50, true}, {1, 3, 0, false}})
}

func TestIndexAtSeveralMonths(t *testing.T) {
	checkIndexes(t, "in order", seriesOf(point(2, 3, 50), point(3, 4, 60), point(5, 5, 40)), []indexCase{
		{1, 9, 0, false}, {2, 9, 50, true}, {3, 9, 60, true}, {4, 9, 60, true}, {5, 9, 40, true}, {6, 9, 40, true},
		// the last month is not yet known, and neither is the one before it
		{3, 3, 50, true}, {6, 3, 50, true}, {3, 4, 60, true}, {5, 4, 60, true}, {6, 4, 60, true}, {6, 2, 0, false},
	})
	checkIndexes(t, "an earlier month revised later", seriesOf(point(2, 3, 50), point(4, 5, 60), point(2, 7, 55)), []indexCase{
		{1, 7, 0, false}, {2, 6, 50, true}, {3, 6, 50, true}, {2, 7, 55, true}, {3, 7, 55, true},
		// a later month that was published before the revision stays the greatest
		{4, 6, 60, true}, {4, 7, 60, true}, {9, 7, 60, true}, {9, 4, 50, true},
	})
	checkIndexes(t, "an earlier month revised in the same month", seriesOf(point(2, 3, 50), point(4, 5, 60), point(2, 5, 55)), []indexCase{
		{3, 4, 50, true}, {3, 5, 55, true}, {4, 5, 60, true}, {9, 5, 60, true},
	})
	checkIndexes(t, "Month goes down while Known stays", seriesOf(point(9, 9, 30), point(6, 9, 20), point(0, 9, 10)), []indexCase{
		{0, 9, 10, true}, {5, 9, 10, true}, {6, 9, 20, true}, {8, 9, 20, true}, {9, 9, 30, true}, {10, 9, 30, true}, {10, 8, 0, false},
	})
	checkIndexes(t, "Month goes down while Known grows", seriesOf(point(9, 9, 30), point(6, 11, 20), point(0, 12, 10)), []indexCase{
		{5, 11, 0, false}, {6, 11, 20, true}, {8, 10, 0, false}, {9, 11, 30, true}, {10, 12, 30, true}, {5, 12, 10, true}, {7, 12, 20, true},
	})
	checkIndexes(t, "revised after a later month and after an earlier one",
		seriesOf(point(4, 4, 1), point(8, 8, 2), point(2, 8, 3), point(4, 9, 4), point(8, 9, 5), point(6, 9, 6)), []indexCase{
			{2, 8, 3, true}, {4, 8, 1, true}, {7, 8, 1, true}, {8, 8, 2, true}, {4, 9, 4, true}, {5, 9, 4, true}, {6, 9, 6, true}, {7, 9, 6, true}, {8, 9, 5, true},
		})
	checkIndexes(t, "the last month", seriesOf(point(0, 0, 7), point(impl.MaxMonth, impl.MaxMonth, 8), point(impl.MaxMonth, impl.MaxMonth, 9)), []indexCase{
		{impl.MaxMonth, impl.MaxMonth, 9, true}, {impl.MaxMonth - 1, impl.MaxMonth, 7, true}, {impl.MaxMonth, impl.MaxMonth - 1, 7, true},
	})
	checkIndexes(t, "MaxFacts points", seriesOf(manyPoints(impl.MaxFacts)...), []indexCase{
		{impl.MaxMonth, impl.MaxMonth, 200, true}, {impl.MaxMonth, 119, 200, true}, {impl.MaxMonth, 118, 160, true}, {24, 119, 199, true}, {0, 119, 163, true},
	})
}

// TestIndexAtNotChecked uses series and months that are not valid, for which IndexAt has no rule.
func TestIndexAtNotChecked(t *testing.T) {
	checkIndexes(t, "Known decreases", seriesOf(point(2, 8, 50), point(2, 3, 60)), []indexCase{
		{2, 8, 60, true}, {2, 3, 60, true}, {2, 7, 60, true}, {2, 2, 0, false},
	})
	checkIndexes(t, "Known decreases, apart", seriesOf(point(4, 8, 50), point(2, 3, 60)), []indexCase{
		{4, 8, 50, true}, {4, 7, 60, true}, {2, 8, 60, true}, {4, 2, 0, false},
	})
	checkIndexes(t, "Known below Month", seriesOf(point(9, 3, 50)), []indexCase{{9, 3, 50, true}, {9, 2, 0, false}, {8, 9, 0, false}})
	checkIndexes(t, "Month below 0", seriesOf(point(-9, 3, 50), point(-8, 3, 60)), []indexCase{
		{-10, 3, 0, false}, {-9, 3, 50, true}, {-8, 3, 60, true}, {0, 3, 60, true}, {0, 2, 0, false},
	})
	checkIndexes(t, "Month beyond the last one", seriesOf(point(8999, 9000, 50)), []indexCase{
		{8998, 9000, 0, false}, {8999, 9000, 50, true}, {8999, 8999, 0, false}, {impl.MaxMonth, 9000, 0, false},
	})
	checkIndexes(t, "the least and the greatest number", seriesOf(point(math.MinInt, math.MinInt, 50), point(math.MaxInt, math.MaxInt, 60)), []indexCase{
		{math.MinInt, math.MinInt, 50, true}, {0, 0, 50, true}, {math.MaxInt, math.MaxInt, 60, true},
		{math.MaxInt - 1, math.MaxInt, 50, true}, {math.MaxInt, math.MaxInt - 1, 50, true},
	})
	checkIndexes(t, "the value 0", seriesOf(point(2, 3, 50), point(2, 4, 0)), []indexCase{{2, 3, 50, true}, {2, 4, 0, true}, {1, 4, 0, false}})
	checkIndexes(t, "values beyond", seriesOf(point(2, 3, math.MaxInt), point(4, 4, math.MinInt), point(5, 5, -1)), []indexCase{
		{3, 9, math.MaxInt, true}, {4, 9, math.MinInt, true}, {5, 9, -1, true},
	})
	checkIndexes(t, "the zero point", seriesOf(impl.Point{}), []indexCase{{0, 0, 0, true}, {5, 5, 0, true}, {-1, 0, 0, false}, {0, -1, 0, false}})
	checkIndexes(t, "too many points", seriesOf(manyPoints(2*impl.MaxFacts)...), []indexCase{
		{impl.MaxMonth, impl.MaxMonth, 400, true}, {impl.MaxMonth, 198, 360, true}, {0, 199, 363, true},
	})
	for _, s := range slices.Concat(validSeries(), invalidSeries()) {
		for _, n := range append(noMonths(), 0, 10, 30, impl.MaxMonth) {
			for _, months := range [][2]int{{n, impl.MaxMonth}, {impl.MaxMonth, n}, {n, n}, {n, 30}} {
				want, wantOk := publishedIndex(s, months[0], months[1])
				if got, ok := impl.IndexAt(s, months[0], months[1]); got != want || ok != wantOk {
					t.Errorf("IndexAt(%v, %d, %d) = %d, %v, want %d, %v", s, months[0], months[1], got, ok, want, wantOk)
				}
			}
		}
	}
}

type ratioCase struct {
	a, b, known int
	ratio       impl.Frac
	ok          bool
}

func checkRatios(t *testing.T, name string, s impl.Series, cases []ratioCase) {
	t.Helper()
	for _, c := range cases {
		if ratio, ok := impl.IndexRatio(s, c.a, c.b, c.known); ratio != c.ratio || ok != c.ok {
			t.Errorf("%s: IndexRatio(%d, %d, %d) = %v, %v, want %v, %v", name, c.a, c.b, c.known, ratio, ok, c.ratio, c.ok)
		}
	}
}

func TestIndexRatio(t *testing.T) {
	none := impl.Frac{}
	checkRatios(t, "two months", seriesOf(point(2, 3, 10000), point(4, 5, 10250)), []ratioCase{
		// in both directions, and a month with itself
		{2, 4, 5, frac(41, 40), true}, {4, 2, 5, frac(40, 41), true}, {2, 2, 5, frac(1, 1), true}, {4, 4, 5, frac(1, 1), true},
		// months without a point of their own
		{3, 9, 5, frac(41, 40), true}, {9, 3, 5, frac(40, 41), true}, {2, 3, 5, frac(1, 1), true}, {4, impl.MaxMonth, 5, frac(1, 1), true},
		// the later index is not yet known, and then neither of them
		{2, 4, 4, frac(1, 1), true}, {4, 2, 4, frac(1, 1), true}, {2, 4, 2, none, false}, {4, 2, 2, none, false}, {2, 2, 2, none, false},
		// a month before the first point on one side and on both
		{1, 4, 5, none, false}, {4, 1, 5, none, false}, {1, 1, 5, none, false}, {0, 1, 5, none, false}, {1, 4, impl.MaxMonth, none, false},
	})
	checkRatios(t, "a revision", seriesOf(point(2, 3, 100), point(4, 5, 150), point(2, 7, 120), point(4, 9, 90)), []ratioCase{
		{2, 4, 5, frac(3, 2), true}, {2, 4, 6, frac(3, 2), true}, {2, 4, 7, frac(5, 4), true}, {2, 4, 8, frac(5, 4), true},
		{2, 4, 9, frac(3, 4), true}, {4, 2, 8, frac(4, 5), true}, {4, 2, 9, frac(4, 3), true}, {2, 3, 7, frac(1, 1), true},
	})
	checkRatios(t, "the least and the greatest value", seriesOf(point(0, 0, 1), point(impl.MaxMonth, impl.MaxMonth, greatestIndex)), []ratioCase{
		{0, impl.MaxMonth, impl.MaxMonth, frac(greatestIndex, 1), true},
		{impl.MaxMonth, 0, impl.MaxMonth, frac(1, greatestIndex), true},
		{impl.MaxMonth, impl.MaxMonth, impl.MaxMonth, frac(1, 1), true},
		{0, impl.MaxMonth, impl.MaxMonth - 1, frac(1, 1), true},
	})
	checkRatios(t, "values without a common divisor", seriesOf(point(0, 0, greatestIndex-1), point(1, 1, greatestIndex)), []ratioCase{
		{0, 1, 1, frac(greatestIndex, greatestIndex-1), true}, {1, 0, 1, frac(greatestIndex-1, greatestIndex), true},
	})
	checkRatios(t, "the empty series", impl.Series{}, []ratioCase{{0, 0, 0, none, false}, {0, 1, impl.MaxMonth, none, false}})
}

// TestIndexRatioNotChecked uses series that are not valid, in which FracNew does not accept every
// two values, and numbers that are no months.
func TestIndexRatioNotChecked(t *testing.T) {
	none := impl.Frac{}
	checkRatios(t, "the value 0", seriesOf(point(2, 2, 0), point(4, 4, 50)), []ratioCase{
		{2, 4, 4, none, false}, {4, 2, 4, frac(0, 1), true}, {2, 2, 4, none, false}, {4, 4, 4, frac(1, 1), true},
	})
	checkRatios(t, "a negative value", seriesOf(point(2, 2, -40), point(4, 4, 50)), []ratioCase{
		{2, 4, 4, frac(-5, 4), true}, {4, 2, 4, frac(-4, 5), true}, {2, 2, 4, frac(1, 1), true},
	})
	checkRatios(t, "one above the greatest value", seriesOf(point(2, 2, greatestIndex+1), point(4, 4, 1)), []ratioCase{
		{4, 2, 4, frac(greatestIndex+1, 1), true}, {2, 4, 4, none, false}, {2, 2, 4, frac(1, 1), true},
	})
	checkRatios(t, "the limit of fractions", seriesOf(point(2, 2, impl.MaxNum), point(4, 4, 3)), []ratioCase{
		{4, 2, 4, frac(impl.MaxNum, 3), true}, {2, 4, 4, none, false}, {2, 2, 4, frac(1, 1), true},
	})
	checkRatios(t, "beyond the limit of fractions", seriesOf(point(2, 2, impl.MaxNum+1), point(4, 4, 1)), []ratioCase{
		{4, 2, 4, none, false}, {2, 4, 4, none, false}, {2, 2, 4, none, false},
	})
	checkRatios(t, "the least number", seriesOf(point(2, 2, math.MinInt), point(4, 4, -1)), []ratioCase{
		{4, 2, 4, none, false}, {2, 4, 4, none, false}, {4, 4, 4, frac(1, 1), true},
	})
	checkRatios(t, "Known decreases", seriesOf(point(2, 8, 50), point(4, 5, 60)), []ratioCase{
		{2, 4, 8, frac(6, 5), true}, {2, 4, 7, none, false}, {4, 4, 5, frac(1, 1), true},
	})
	checkRatios(t, "no months", seriesOf(point(-9, -9, 50), point(8999, 9000, 60)), []ratioCase{
		{-9, 8999, 9000, frac(6, 5), true}, {8999, -9, 9000, frac(5, 6), true}, {-10, 8999, 9000, none, false}, {-9, 8999, -10, none, false},
		{-9, math.MaxInt, math.MaxInt, frac(6, 5), true}, {math.MinInt, 0, 0, none, false}, {0, math.MinInt, 0, none, false}, {0, 0, math.MinInt, none, false},
	})
	for _, s := range slices.Concat(validSeries(), invalidSeries()) {
		for _, n := range append(noMonths(), 0, 10, 30, impl.MaxMonth) {
			for _, c := range [][3]int{{n, 30, 60}, {30, n, 60}, {30, impl.MaxMonth, n}, {n, n, n}} {
				want, wantOk := indexRatio(s, c[0], c[1], c[2])
				if got, ok := impl.IndexRatio(s, c[0], c[1], c[2]); got != want || ok != wantOk {
					t.Errorf("IndexRatio(%v, %v) = %v, %v, want %v, %v", s, c, got, ok, want, wantOk)
				}
			}
		}
	}
}

// indexRatio is the exact ratio as a valid fraction, out of publishedIndex.
func indexRatio(s impl.Series, a int, b int, known int) (impl.Frac, bool) {
	before, was := publishedIndex(s, a, known)
	after, is := publishedIndex(s, b, known)
	inRange := max(before, after) <= 1000000000000 && min(before, after) >= -1000000000000
	if !was || !is || !inRange || before == 0 {
		return impl.Frac{}, false
	}
	return validOf(ratOf(frac(after, before)))
}

func TestPublish(t *testing.T) {
	for _, s := range validSeries() {
		for _, p := range slices.Concat(validPoints(), invalidPoints()) {
			want := seriesOf(slices.Concat(s.Points, []impl.Point{p})...)
			wantOk := seriesValid(want)
			if !wantOk {
				want = s
			}
			if got, ok := impl.Publish(s, p); ok != wantOk || !sameSeries(got, want) {
				t.Errorf("Publish(%v, %v) = %v, %v, want %v, %v", s, p, got, ok, want, wantOk)
			}
		}
	}
}

func TestPublishNamed(t *testing.T) {
	full := seriesOf(manyPoints(impl.MaxFacts)...)
	late := point(0, impl.MaxMonth, 1)
	for _, c := range []struct {
		name string
		s    impl.Series
		p    impl.Point
		want bool
	}{
		{"to the empty series", impl.Series{}, point(0, 0, 1), true},
		{"the zero point to the empty series", impl.Series{}, impl.Point{}, false},
		{"the point number MaxFacts", seriesOf(full.Points[:impl.MaxFacts-1]...), late, true},
		{"a point beyond MaxFacts", full, late, false},
		{"to a series of MaxFacts+1 points", seriesOf(manyPoints(impl.MaxFacts + 1)...), late, false},
		{"with the last Known", seriesOf(publishedIn(3, 8)...), point(0, 8, 1), true},
		{"with a later Known", seriesOf(publishedIn(3, 8)...), point(0, 9, 1), true},
		{"with a Known one before", seriesOf(publishedIn(3, 8)...), point(0, 7, 1), false},
		{"with an earlier Known and another month", seriesOf(point(2, 8, 1)), point(5, 7, 1), false},
		{"an earlier month", seriesOf(point(5, 8, 1)), point(2, 8, 1), true},
		{"a later month", seriesOf(point(5, 8, 1)), point(8, 8, 1), true},
		{"a month after its Known", seriesOf(point(5, 8, 1)), point(9, 8, 1), false},
		{"the same point again", seriesOf(late), late, true},
		{"a value of 0", seriesOf(point(5, 8, 1)), point(5, 8, 0), false},
		{"the greatest value", seriesOf(point(5, 8, 1)), point(5, 8, greatestIndex), true},
		{"a value above the greatest", seriesOf(point(5, 8, 1)), point(5, 8, greatestIndex+1), false},
		{"to a series whose Known decrease", seriesOf(publishedIn(8, 3)...), late, false},
	} {
		want := c.s.Points
		if c.want {
			want = slices.Concat(c.s.Points, []impl.Point{c.p})
		}
		if got, ok := impl.Publish(c.s, c.p); ok != c.want || !slices.Equal(got.Points, want) {
			t.Errorf("%s: Publish = %v, %v, want %v, %v", c.name, got, ok, want, c.want)
		}
	}
}

func TestPublishInvalidSeries(t *testing.T) {
	for _, s := range invalidSeries() {
		for _, p := range slices.Concat(validPoints(), invalidPoints()[:1]) {
			if got, ok := impl.Publish(s, p); ok || !sameSeries(got, s) {
				t.Errorf("Publish(%v, %v) = %v, %v, want the series and false", s, p, got, ok)
			}
		}
	}
}

func TestRevisionsOf(t *testing.T) {
	s := seriesOf(point(2, 3, 50), point(4, 4, 9), point(2, 4, 90), point(2, 4, 20), point(0, 5, 8), point(2, 9, 50), point(2, impl.MaxMonth, 50),
		point(impl.MaxMonth, impl.MaxMonth, greatestIndex))
	bad := seriesOf(point(-1, 3, 50), point(monthEnd, 2, 0), point(-1, -9, -7), point(5, 2, 60), impl.Point{}, point(5, 2, 60), point(math.MinInt, math.MaxInt, math.MaxInt))
	for _, c := range []struct {
		s    impl.Series
		m    int
		want []int
	}{
		{s, 2, []int{50, 90, 20, 50, 50}}, {s, 4, []int{9}}, {s, 0, []int{8}}, {s, impl.MaxMonth, []int{greatestIndex}},
		// only the month itself counts, unlike for IndexAt
		{s, 1, nil}, {s, 3, nil}, {s, 5, nil}, {s, impl.MaxMonth - 1, nil},
		{impl.Series{}, 0, nil}, {impl.Series{}, impl.MaxMonth, nil},
		// nothing is checked
		{bad, -1, []int{50, -7}}, {bad, monthEnd, []int{0}}, {bad, 5, []int{60, 60}}, {bad, 0, []int{0}}, {bad, math.MinInt, []int{math.MaxInt}}, {bad, 2, nil},
	} {
		if got := impl.RevisionsOf(c.s, c.m); !slices.Equal(got, c.want) {
			t.Errorf("RevisionsOf(%v, %d) = %v, want %v", c.s, c.m, got, c.want)
		}
	}
	for _, n := range noMonths() {
		if got := impl.RevisionsOf(s, n); len(got) != 0 {
			t.Errorf("RevisionsOf(%v, %d) = %v, want none", s, n, got)
		}
	}
	for _, s := range []impl.Series{seriesOf(manyPoints(impl.MaxFacts)...), seriesOf(manyPoints(2 * impl.MaxFacts)...)} {
		count := 0
		for m := range 30 {
			values := impl.RevisionsOf(s, m)
			count += len(values)
			if !slices.IsSorted(values) || (len(values) > 0) != (m%2 == 0 && m <= 26) {
				t.Errorf("RevisionsOf %d of %d points = %v", m, len(s.Points), values)
			}
		}
		if count != len(s.Points) {
			t.Errorf("%d of %d points are revisions of a month", count, len(s.Points))
		}
	}
}

// randomSeries has points of few months close to one another, so that many of them are revisions
// and a later month is often published before a revision of an earlier one.
func randomSeries(random *rand.Rand, count int) impl.Series {
	var s impl.Series
	known := random.Intn(4)
	for range count {
		s.Points = append(s.Points, point(random.Intn(known+1), known, 1+random.Intn(8)))
		known += random.Intn(3)
	}
	return s
}

func TestRandomSeries(t *testing.T) {
	random := rand.New(rand.NewSource(7))
	for range 300 {
		s := randomSeries(random, random.Intn(14))
		if !impl.SeriesOk(s) {
			t.Errorf("SeriesOk(%v) = false", s)
		}
		for known := -1; known < 30; known++ {
			for m := -1; m < 30; m++ {
				want, wantOk := publishedIndex(s, m, known)
				if got, ok := impl.IndexAt(s, m, known); got != want || ok != wantOk {
					t.Errorf("IndexAt(%v, %d, %d) = %d, %v, want %d, %v", s, m, known, got, ok, want, wantOk)
				}
			}
		}
		for range 40 {
			a, b, known := random.Intn(30), random.Intn(30), random.Intn(30)
			ratio, isRatio := impl.IndexRatio(s, a, b, known)
			if want, wantOk := indexRatio(s, a, b, known); ratio != want || isRatio != wantOk {
				t.Errorf("IndexRatio(%v, %d, %d, %d) = %v, %v, want %v, %v", s, a, b, known, ratio, isRatio, want, wantOk)
			}
			back, isBack := impl.IndexRatio(s, b, a, known)
			product, _ := impl.FracMul(ratio, back)
			if isBack != isRatio || isRatio && product != frac(1, 1) {
				t.Errorf("the ratios of %d and %d known in %d in %v are %v and %v", a, b, known, s, ratio, back)
			}
		}
	}
}

// TestRevisionCounts checks the promise: a point counts only from the month in which it is known.
func TestRevisionCounts(t *testing.T) {
	random := rand.New(rand.NewSource(77))
	for range 100 {
		s := randomSeries(random, 1+random.Intn(8))
		for range 4 {
			known := s.Points[len(s.Points)-1].Known + random.Intn(3)
			p := point(random.Intn(known+1), known, 20+random.Intn(9))
			larger, ok := impl.Publish(s, p)
			if !ok {
				t.Fatalf("Publish(%v, %v) = %v, false", s, p, larger)
			}
			checkCounts(t, s, larger, p)
			s = larger
		}
	}
}

// checkCounts compares a series with the one to which p was added, as known before p and since then.
// Since then, p counts from its month to the one before the next month that has a point.
func checkCounts(t *testing.T, s impl.Series, larger impl.Series, p impl.Point) {
	t.Helper()
	end := monthEnd
	for _, other := range s.Points {
		if other.Month > p.Month {
			end = min(end, other.Month)
		}
	}
	for known := range p.Known + 3 {
		for m := range p.Known + 6 {
			want, wantOk := impl.IndexAt(s, m, known)
			if known >= p.Known && p.Month <= m && m < end {
				want, wantOk = p.Value, true
			}
			if got, ok := impl.IndexAt(larger, m, known); got != want || ok != wantOk {
				t.Errorf("with %v, the index of %d in %v known in %d is %d, %v, want %d, %v", p, m, s, known, got, ok, want, wantOk)
			}
		}
	}
	for m := range p.Known + 3 {
		want := impl.RevisionsOf(s, m)
		if m == p.Month {
			want = append(want, p.Value)
		}
		if got := impl.RevisionsOf(larger, m); !slices.Equal(got, want) {
			t.Errorf("with %v, the revisions of %d are %v, want %v", p, m, got, want)
		}
	}
}

// seriesWithSpare returns a series whose slice has room behind it, filled with a mark.
func seriesWithSpare(s impl.Series) impl.Series {
	points := make([]impl.Point, len(s.Points), len(s.Points)+4)
	copy(points, s.Points)
	room := points[len(points):cap(points)]
	for i := range room {
		room[i] = point(-1, -2, -3)
	}
	return impl.Series{Points: points}
}

// isSeriesWithSpare reports whether s and the room behind it are as seriesWithSpare made them.
func isSeriesWithSpare(s impl.Series, of impl.Series) bool {
	want := seriesWithSpare(of)
	return slices.Equal(s.Points[:cap(s.Points)], want.Points[:cap(want.Points)])
}

// overwriteSeries changes a series, the room behind it and what is appended to it.
func overwriteSeries(s impl.Series) {
	whole := append(s.Points[:cap(s.Points)], point(7, 7, 7))
	for _, points := range [][]impl.Point{s.Points[:cap(s.Points)], whole} {
		for i := range points {
			points[i] = point(99, 98, 97)
		}
	}
}

// sharingSeries holds series of every length that counts for the memory of a result.
func sharingSeries() []impl.Series {
	return []impl.Series{
		{},
		seriesOf(publishedIn(3, 8)...),
		seriesOf(publishedIn(8, 3)...),
		seriesOf(manyPoints(impl.MaxFacts - 1)...),
		seriesOf(manyPoints(impl.MaxFacts)...),
		seriesOf(manyPoints(impl.MaxFacts + 1)...),
	}
}

func TestPublishSharesNoMemory(t *testing.T) {
	for _, s := range sharingSeries() {
		for _, p := range []impl.Point{point(1, impl.MaxMonth, 1), {}, point(0, 0, 1)} {
			given := seriesWithSpare(s)
			one, _ := impl.Publish(given, p)
			other, _ := impl.Publish(given, p)
			want := slices.Clone(one.Points)
			overwriteSeries(one)
			if !isSeriesWithSpare(given, s) || !slices.Equal(other.Points, want) {
				t.Errorf("Publish changes its argument %v, or a change of its result changes it or another result", s)
			}
			overwriteSeries(given)
			if !slices.Equal(other.Points, want) {
				t.Errorf("Publish returns memory of its argument %v", s)
			}
		}
	}
}

func TestRevisionsShareNoMemory(t *testing.T) {
	for _, s := range sharingSeries() {
		given := seriesWithSpare(s)
		one, other := impl.RevisionsOf(given, 0), impl.RevisionsOf(given, 0)
		want := slices.Clone(one)
		for _, values := range [][]int{one[:cap(one)], append(one[:cap(one)], 7)} {
			for i := range values {
				values[i] = -1
			}
		}
		overwriteSeries(given)
		if !slices.Equal(other, want) {
			t.Errorf("a change of the revisions in %v changes those of another call", s)
		}
	}
}

func TestSeriesAreNotChanged(t *testing.T) {
	for _, s := range slices.Concat(validSeries(), invalidSeries()) {
		given := seriesWithSpare(s)
		impl.SeriesOk(given)
		impl.IndexAt(given, 10, 30)
		impl.IndexAt(given, impl.MaxMonth, impl.MaxMonth)
		impl.IndexRatio(given, 10, impl.MaxMonth, impl.MaxMonth)
		impl.Publish(given, point(0, impl.MaxMonth, 1))
		impl.Publish(given, impl.Point{})
		impl.RevisionsOf(given, 10)
		if !isSeriesWithSpare(given, s) {
			t.Errorf("a function changes its argument %v", s)
		}
	}
}
