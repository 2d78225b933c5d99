package tests

import (
	"fmt"
	"math"
	"math/rand"
	"slices"
	"strings"
	"testing"

	"loop.example/g00980/impl"
)

// maxSegments is written as a number here, so that a change of the limit does not change the tests.
const maxSegments = 401

func seg(from int, to int, value int) impl.Segment {
	return impl.Segment{From: from, To: to, Value: value}
}

func listOf(segments ...impl.Segment) []impl.Segment { return segments }

// noMonthEnds holds numbers at which no range of months begins or ends.
func noMonthEnds() []int {
	return []int{-1, -2, -12, monthEnd + 1, monthEnd + 2, monthEnd + 12, 10000, 1 << 32, -1 << 32, math.MaxInt, math.MinInt}
}

// steps holds so many segments that touch, one month each, and end with the month end-1.
func steps(count int, end int) []impl.Segment {
	var list []impl.Segment
	for i := range count {
		list = append(list, seg(end-count+i, end-count+i+1, i%2))
	}
	return list
}

// spaced holds so many segments with the same value and a gap of one month between them.
func spaced(count int) []impl.Segment {
	var list []impl.Segment
	for i := range count {
		list = append(list, seg(2*i, 2*i+1, 5))
	}
	return list
}

// anyValues holds values that are in the range of the values of facts, at its ends or beyond.
func anyValues() []int {
	return []int{0, 1, -1, impl.MaxValue, -impl.MaxValue, impl.MaxValue + 1, -impl.MaxValue - 1, math.MaxInt, math.MinInt}
}

func validLists() [][]impl.Segment {
	lists := [][]impl.Segment{
		nil,
		{},
		listOf(seg(0, 1, 0)),
		listOf(seg(10, 20, 5)),
		listOf(seg(0, monthEnd, -1)),
		listOf(seg(impl.MaxMonth, monthEnd, 1)),
		// touching with different values, the last ones with the value of the first
		listOf(seg(0, 4, 5), seg(4, 6, 7), seg(6, 10, 5)),
		listOf(seg(0, 1, 0), seg(1, 2, 1), seg(2, 3, 0)),
		listOf(seg(0, 1, 5), seg(1, 2, -5)),
		listOf(seg(0, impl.MaxMonth, 0), seg(impl.MaxMonth, monthEnd, 1)),
		// a gap of one month and a larger one, with the same and with different values
		listOf(seg(0, 4, 5), seg(5, 6, 5)),
		listOf(seg(0, 4, 5), seg(5, 6, 7)),
		listOf(seg(0, 4, 5), seg(40, 60, 5)),
		listOf(seg(0, 1, 5), seg(impl.MaxMonth, monthEnd, 5)),
		steps(maxSegments-1, monthEnd),
		steps(maxSegments, maxSegments),
		steps(maxSegments, monthEnd),
		spaced(maxSegments),
	}
	for _, value := range anyValues() {
		lists = append(lists, listOf(seg(3, 5, value)), listOf(seg(1, 2, 3), seg(3, 5, value), seg(6, 7, value)))
	}
	return lists
}

func invalidLists() [][]impl.Segment {
	lists := [][]impl.Segment{
		// touching with the same value
		listOf(seg(0, 4, 5), seg(4, 6, 5)),
		listOf(seg(0, 4, 0), seg(4, 6, 0)),
		listOf(seg(0, 4, 5), seg(4, 6, 7), seg(6, 10, 7)),
		listOf(seg(0, 4, 5), seg(4, 6, 5), seg(6, 10, 7)),
		listOf(seg(0, 4, math.MaxInt), seg(4, 6, math.MaxInt)),
		listOf(seg(0, impl.MaxMonth, 1), seg(impl.MaxMonth, monthEnd, 1)),
		// overlapping by one month, by more, inside one another and the same one again
		listOf(seg(0, 4, 5), seg(3, 6, 7)),
		listOf(seg(0, 4, 5), seg(3, 6, 5)),
		listOf(seg(0, 40, 5), seg(1, 60, 7)),
		listOf(seg(0, 40, 5), seg(10, 20, 7)),
		listOf(seg(10, 20, 5), seg(0, 40, 7)),
		listOf(seg(10, 20, 5), seg(10, 20, 7)),
		listOf(seg(10, 20, 5), seg(10, 20, 5)),
		listOf(seg(0, 4, 1), seg(6, 10, 2), seg(9, 12, 3)),
		listOf(seg(0, 4, 1), seg(3, 10, 2), seg(10, 12, 3)),
		// after one another, but not in ascending order
		listOf(seg(4, 6, 7), seg(0, 4, 5)),
		listOf(seg(5, 6, 7), seg(0, 4, 5)),
		listOf(seg(0, 1, 1), seg(8, 9, 2), seg(4, 6, 3)),
		// too many
		steps(maxSegments+1, maxSegments+1),
		steps(maxSegments+1, monthEnd),
		steps(2*maxSegments, monthEnd),
		spaced(maxSegments + 1),
	}
	for _, bad := range invalidSegments() {
		lists = append(lists, listOf(bad), listOf(bad, seg(3000, 3001, 1)), listOf(seg(0, 1, 1), bad), listOf(seg(0, 1, 1), bad, seg(3000, 3001, 1)))
	}
	return lists
}

func invalidSegments() []impl.Segment {
	list := listOf(
		impl.Segment{},
		seg(20, 20, 5),
		seg(21, 20, 5),
		seg(40, 20, 5),
		seg(monthEnd, monthEnd, 5),
		seg(monthEnd, 20, 5),
		seg(monthEnd, monthEnd+1, 5),
		seg(-1, 0, 5),
		seg(-1, -1, 5),
		seg(-1, monthEnd+1, 5),
		seg(math.MinInt, math.MaxInt, 5),
		seg(math.MaxInt, math.MinInt, 5),
	)
	for _, n := range noMonthEnds() {
		list = append(list, seg(n, 2000, 5), seg(2000, n, 5), seg(n, monthEnd, 5), seg(0, n, 5))
	}
	return list
}

// listValid is written apart from the program: it lays the segments out month by month.
func listValid(list []impl.Segment) bool {
	var values [monthEnd]int
	var owners [monthEnd]int
	last := -1
	for i, segment := range list {
		if segment.From < 0 || segment.To > monthEnd || segment.To-segment.From < 1 {
			return false
		}
		for m := segment.From; m < segment.To; m++ {
			if m <= last {
				return false
			}
			values[m], owners[m], last = segment.Value, i+1, m
		}
	}
	for m := 1; m < monthEnd; m++ {
		both := owners[m] != 0 && owners[m-1] != 0
		if both && owners[m] != owners[m-1] && values[m] == values[m-1] {
			return false
		}
	}
	return len(list) <= maxSegments
}

// timeline is written apart from the program: it adds one month after the other to the last segment,
// or as a new one.
func timeline(s impl.Store, key int, known int, from int, to int) []impl.Segment {
	var list []impl.Segment
	for m := from; m < to; m++ {
		value, ok := lastValue(s, key, m, known)
		last := len(list) - 1
		switch {
		case !ok:
		case last >= 0 && list[last].To == m && list[last].Value == value:
			list[last].To = m + 1
		default:
			list = append(list, seg(m, m+1, value))
		}
	}
	return list
}

// monthSum counts every month with every segment that contains it.
func monthSum(list []impl.Segment, from int, to int) int {
	sum := 0
	for m := from; m < to; m++ {
		for _, segment := range list {
			if m >= segment.From && m <= segment.To-1 {
				sum += segment.Value
			}
		}
	}
	return sum
}

type timelineCase struct {
	name                 string
	key, known, from, to int
	want                 []impl.Segment
}

func checkTimelines(t *testing.T, s impl.Store, cases []timelineCase) {
	t.Helper()
	for _, c := range cases {
		if got := impl.TimelineOf(s, c.key, c.known, c.from, c.to); !slices.Equal(got, c.want) {
			t.Errorf("%s: TimelineOf(%d, %d, %d, %d) = %v, want %v", c.name, c.key, c.known, c.from, c.to, got, c.want)
		}
	}
}

func TestTimelineOfOneFact(t *testing.T) {
	checkTimelines(t, storeOf(fact(7, 10, 20, 30, 40)), []timelineCase{
		{"all months", 7, 30, 0, monthEnd, listOf(seg(10, 20, 40))},
		{"its months", 7, 30, 10, 20, listOf(seg(10, 20, 40))},
		{"one month more before it", 7, 30, 9, 20, listOf(seg(10, 20, 40))},
		{"one month more after it", 7, 30, 10, 21, listOf(seg(10, 20, 40))},
		{"it begins before from", 7, 30, 11, 25, listOf(seg(11, 20, 40))},
		{"it ends after to", 7, 30, 5, 19, listOf(seg(10, 19, 40))},
		{"both", 7, 30, 13, 15, listOf(seg(13, 15, 40))},
		{"its first month", 7, 30, 10, 11, listOf(seg(10, 11, 40))},
		{"its last month", 7, 30, 19, 20, listOf(seg(19, 20, 40))},
		{"up to its first month", 7, 30, 5, 11, listOf(seg(10, 11, 40))},
		{"up to the month before", 7, 30, 0, 10, nil},
		{"from its last month", 7, 30, 19, 50, listOf(seg(19, 20, 40))},
		{"from the month after", 7, 30, 20, monthEnd, nil},
		{"from equal to to", 7, 30, 15, 15, nil},
		{"from above to", 7, 30, 16, 15, nil},
		{"from far above to", 7, 30, monthEnd, 0, nil},
		{"from its To to its From", 7, 30, 20, 10, nil},
		{"no month at 0", 7, 30, 0, 0, nil},
		{"no month at the end", 7, 30, monthEnd, monthEnd, nil},
		{"not yet known", 7, 29, 0, monthEnd, nil},
		{"known later", 7, 31, 0, monthEnd, listOf(seg(10, 20, 40))},
		{"known in the last month", 7, impl.MaxMonth, 0, monthEnd, listOf(seg(10, 20, 40))},
		{"known in month 0", 7, 0, 0, monthEnd, nil},
		{"the key before", 6, 30, 0, monthEnd, nil},
		{"the key after", 8, 30, 0, monthEnd, nil},
	})
	checkTimelines(t, storeOf(fact(1, 0, monthEnd, 0, -3)), []timelineCase{
		{"every month, known in month 0", 1, 0, 0, monthEnd, listOf(seg(0, monthEnd, -3))},
		{"every month but the last", 1, 0, 0, impl.MaxMonth, listOf(seg(0, impl.MaxMonth, -3))},
		{"every month but the first", 1, 0, 1, monthEnd, listOf(seg(1, monthEnd, -3))},
		{"the first month", 1, 0, 0, 1, listOf(seg(0, 1, -3))},
		{"the last month", 1, 0, impl.MaxMonth, monthEnd, listOf(seg(impl.MaxMonth, monthEnd, -3))},
	})
	checkTimelines(t, storeOf(fact(1, impl.MaxMonth, monthEnd, impl.MaxMonth, 0)), []timelineCase{
		{"the value 0 in the last month", 1, impl.MaxMonth, 0, monthEnd, listOf(seg(impl.MaxMonth, monthEnd, 0))},
		{"known a month before", 1, impl.MaxMonth - 1, 0, monthEnd, nil},
		{"up to the last month", 1, impl.MaxMonth, 0, impl.MaxMonth, nil},
	})
	checkTimelines(t, impl.Store{}, []timelineCase{{"the empty store", 1, 0, 0, monthEnd, nil}})
}

func TestTimelineOfSeveralFacts(t *testing.T) {
	checkTimelines(t, storeOf(fact(1, 0, 10, 2, 5), fact(1, 4, 6, 8, 7)), []timelineCase{
		{"a value inside another", 1, 9, 0, 20, listOf(seg(0, 4, 5), seg(4, 6, 7), seg(6, 10, 5))},
		{"before it is known", 1, 7, 0, 20, listOf(seg(0, 10, 5))},
		{"before anything is known", 1, 1, 0, 20, nil},
		{"cut at both sides", 1, 9, 3, 7, listOf(seg(3, 4, 5), seg(4, 6, 7), seg(6, 7, 5))},
		{"cut to the inner value", 1, 9, 4, 6, listOf(seg(4, 6, 7))},
		{"cut inside the inner value", 1, 9, 5, 20, listOf(seg(5, 6, 7), seg(6, 10, 5))},
	})
	checkTimelines(t, storeOf(fact(1, 4, 8, 2, 5), fact(1, 8, 10, 2, 5), fact(1, 10, 12, 2, 7)), []timelineCase{
		{"one value out of two facts", 1, 2, 0, 20, listOf(seg(4, 10, 5), seg(10, 12, 7))},
	})
	checkTimelines(t, storeOf(fact(1, 8, 10, 2, 5), fact(1, 10, 12, 2, 5), fact(1, 6, 8, 2, 5), fact(1, 7, 11, 3, 5)), []timelineCase{
		{"one value out of four facts", 1, 3, 0, 20, listOf(seg(6, 12, 5))},
	})
	checkTimelines(t, storeOf(fact(1, 0, 10, 2, 5), fact(1, 4, 6, 8, 5)), []timelineCase{
		{"the same value inside", 1, 8, 0, 20, listOf(seg(0, 10, 5))},
	})
	checkTimelines(t, storeOf(fact(1, 4, 6, 2, 5), fact(1, 7, 9, 2, 5)), []timelineCase{
		{"a month without a value between", 1, 2, 0, 20, listOf(seg(4, 6, 5), seg(7, 9, 5))},
		{"from that month", 1, 2, 6, 20, listOf(seg(7, 9, 5))},
		{"up to that month", 1, 2, 0, 7, listOf(seg(4, 6, 5))},
		{"only that month", 1, 2, 6, 7, nil},
	})
	checkTimelines(t, storeOf(fact(1, 4, 6, 2, 0), fact(1, 7, 9, 2, 0), fact(1, 9, 10, 2, -1)), []timelineCase{
		{"a month without a value is not one with 0", 1, 2, 0, 20, listOf(seg(4, 6, 0), seg(7, 9, 0), seg(9, 10, -1))},
	})
	checkTimelines(t, storeOf(fact(1, 4, 6, 2, 5), fact(2, 5, 8, 2, 9), fact(50, 0, 99, 2, 4), fact(1, 6, 7, 2, -5)), []timelineCase{
		{"the first of three keys", 1, 2, 0, 20, listOf(seg(4, 6, 5), seg(6, 7, -5))},
		{"the second of three keys", 2, 2, 0, 20, listOf(seg(5, 8, 9))},
		{"the last of three keys", 50, 2, 0, 20, listOf(seg(0, 20, 4))},
		{"a key without facts", 3, 2, 0, 20, nil},
	})
	checkTimelines(t, storeOf(fact(1, 4, 6, 2, impl.MaxValue), fact(1, 6, 8, 2, -impl.MaxValue)), []timelineCase{
		{"the greatest and the least value", 1, 2, 0, 20, listOf(seg(4, 6, impl.MaxValue), seg(6, 8, -impl.MaxValue))},
	})
}

// nested returns a store with MaxFacts facts, each inside the one before it.
func nested() impl.Store {
	var s impl.Store
	for i := range impl.MaxFacts {
		s.Facts = append(s.Facts, fact(1, i, 399-i, 0, i))
	}
	return s
}

func TestTimelineOfMostSegments(t *testing.T) {
	got := impl.TimelineOf(nested(), 1, 0, 0, monthEnd)
	if len(got) != 399 || !impl.TimelineOk(got) {
		t.Fatalf("TimelineOf has %d segments, valid: %v", len(got), impl.TimelineOk(got))
	}
	for i, segment := range got {
		if want := seg(i, i+1, min(i, 398-i)); segment != want {
			t.Errorf("segment %d is %v, want %v", i, segment, want)
		}
	}
}

func TestTimelineOfInvalid(t *testing.T) {
	none := func(s impl.Store, key int, known int, from int, to int) {
		t.Helper()
		if got := impl.TimelineOf(s, key, known, from, to); len(got) != 0 {
			t.Errorf("TimelineOf(%v, %d, %d, %d, %d) = %v, want none", s, key, known, from, to, got)
		}
	}
	for _, s := range invalidStores() {
		for _, key := range []int{0, 1, 7} {
			none(s, key, impl.MaxMonth, 0, monthEnd)
		}
	}
	s := storeOf(fact(1, 0, monthEnd, 0, 5))
	for _, known := range noMonths() {
		none(s, 1, known, 0, monthEnd)
		none(s, 1, known, -1, monthEnd+1)
	}
	for _, bad := range noMonthEnds() {
		for _, end := range []int{0, 1, 20, impl.MaxMonth, monthEnd, -1, monthEnd + 1} {
			none(s, 1, 0, bad, end)
			none(s, 1, 0, end, bad)
		}
	}
	// A key has no rule here, but no fact of a valid store has one that is not valid.
	for _, key := range noKeys() {
		none(s, key, 0, 0, monthEnd)
	}
}

func TestTimelineOk(t *testing.T) {
	for _, list := range validLists() {
		if !impl.TimelineOk(list) {
			t.Errorf("TimelineOk(%v) = false", list)
		}
	}
	for _, list := range invalidLists() {
		if impl.TimelineOk(list) {
			t.Errorf("TimelineOk(%v) = true", list)
		}
	}
}

// TestTimelineOkEveryPair judges every two segments of the first months with two values, alone and
// after a segment that both can follow.
func TestTimelineOkEveryPair(t *testing.T) {
	var segments []impl.Segment
	for code := range 5 * 5 * 2 {
		segments = append(segments, seg(code%5, code/5%5, code/25))
	}
	for _, a := range segments {
		for _, b := range segments {
			for _, list := range [][]impl.Segment{listOf(a, b), listOf(seg(0, 1, 2), a, b)} {
				if got, want := impl.TimelineOk(list), listValid(list); got != want {
					t.Errorf("TimelineOk(%v) = %v, want %v", list, got, want)
				}
			}
		}
	}
}

func TestSegmentAt(t *testing.T) {
	apart := listOf(seg(10, 20, 5), seg(21, 22, 5), seg(30, 40, 7))
	touching := listOf(seg(0, 4, 5), seg(4, 6, 7), seg(6, 10, 5), seg(impl.MaxMonth, monthEnd, 1))
	all := listOf(seg(0, monthEnd, 0))
	for _, c := range []struct {
		list []impl.Segment
		m    int
		want int
	}{
		{apart, 0, -1}, {apart, 9, -1}, {apart, 10, 0}, {apart, 11, 0}, {apart, 19, 0}, {apart, 20, -1},
		{apart, 21, 1}, {apart, 22, -1}, {apart, 29, -1}, {apart, 30, 2}, {apart, 39, 2}, {apart, 40, -1},
		{apart, impl.MaxMonth, -1},
		{touching, 0, 0}, {touching, 3, 0}, {touching, 4, 1}, {touching, 5, 1}, {touching, 6, 2}, {touching, 9, 2},
		{touching, 10, -1}, {touching, impl.MaxMonth - 1, -1}, {touching, impl.MaxMonth, 3},
		{all, 0, 0}, {all, impl.MaxMonth, 0},
		{nil, 0, -1}, {listOf(), impl.MaxMonth, -1},
	} {
		if got := impl.SegmentAt(c.list, c.m); got != c.want {
			t.Errorf("SegmentAt(%v, %d) = %d, want %d", c.list, c.m, got, c.want)
		}
	}
	for _, list := range [][]impl.Segment{nil, apart, touching, all} {
		for _, m := range noMonths() {
			if got := impl.SegmentAt(list, m); got != -1 {
				t.Errorf("SegmentAt(%v, %d) = %d, want -1", list, m, got)
			}
		}
	}
	if got := impl.SegmentAt(spaced(maxSegments), 2*maxSegments-2); got != maxSegments-1 {
		t.Errorf("SegmentAt of the last of %d segments is %d", maxSegments, got)
	}
}

// TestSegmentAtNotChecked uses lists that are not valid, for which SegmentAt has no rule.
func TestSegmentAtNotChecked(t *testing.T) {
	for _, c := range []struct {
		name string
		list []impl.Segment
		m    int
		want int
	}{
		{"the first of two that overlap", listOf(seg(0, 5, 1), seg(3, 8, 2)), 3, 0},
		{"after the first of two that overlap", listOf(seg(0, 5, 1), seg(3, 8, 2)), 5, 1},
		{"the first of two that are the same", listOf(seg(3, 8, 2), seg(3, 8, 2)), 7, 0},
		{"descending", listOf(seg(6, 8, 1), seg(0, 6, 2)), 2, 1},
		{"descending and overlapping", listOf(seg(5, 8, 1), seg(0, 6, 2)), 5, 0},
		{"touching with the same value", listOf(seg(0, 4, 5), seg(4, 6, 5)), 4, 1},
		{"From equal to To", listOf(seg(4, 4, 1), seg(4, 5, 2)), 4, 1},
		{"From above To", listOf(seg(6, 3, 1), seg(0, 9, 2)), 6, 1},
		{"between To and From", listOf(seg(6, 3, 1), seg(0, 9, 2)), 4, 1},
		{"at the To below From", listOf(seg(6, 3, 1), seg(0, 9, 2)), 3, 1},
		{"From below 0", listOf(seg(-9, 2, 1)), 0, 0},
		{"To beyond the last month", listOf(seg(9, 9000, 1)), impl.MaxMonth, 0},
		{"in every number", listOf(seg(math.MinInt, math.MaxInt, 1)), 0, 0},
		{"the zero segment", listOf(impl.Segment{}), 0, -1},
		{"values beyond", listOf(seg(0, 2, math.MaxInt), seg(2, 3, math.MinInt)), 2, 1},
		{"too many", spaced(2 * maxSegments), 4*maxSegments - 2, 2*maxSegments - 1},
		// A number that is no month is only compared.
		{"a number below 0", listOf(seg(-9, 2, 1)), -9, 0},
		{"a number far beyond", listOf(seg(9, 9000, 1)), 8999, 0},
	} {
		if got := impl.SegmentAt(c.list, c.m); got != c.want {
			t.Errorf("%s: SegmentAt(%v, %d) = %d, want %d", c.name, c.list, c.m, got, c.want)
		}
	}
}

func TestSumOver(t *testing.T) {
	list := listOf(seg(0, 4, 5), seg(4, 6, 7), seg(6, 10, 5), seg(11, 12, -30), seg(20, 30, 0), seg(impl.MaxMonth, monthEnd, 2))
	for _, c := range []struct {
		list     []impl.Segment
		from, to int
		want     int
	}{
		{list, 0, monthEnd, 26}, {list, 3, 7, 24}, {list, 0, 1, 5}, {list, 0, 4, 20}, {list, 0, 5, 27},
		{list, 4, 6, 14}, {list, 5, 6, 7}, {list, 9, 10, 5}, {list, 9, 11, 5}, {list, 9, 12, -25}, {list, 10, 11, 0},
		{list, 11, 12, -30}, {list, 20, 30, 0}, {list, 12, impl.MaxMonth, 0}, {list, impl.MaxMonth, monthEnd, 2},
		// no month
		{list, 0, 0, 0}, {list, 5, 5, 0}, {list, 6, 5, 0}, {list, 10, 0, 0}, {list, monthEnd, 0, 0}, {list, monthEnd, monthEnd, 0},
		{nil, 0, monthEnd, 0}, {listOf(), 0, 1, 0},
		// values at the limit
		{listOf(seg(3, 5, impl.MaxValue)), 0, monthEnd, 2 * impl.MaxValue},
		{listOf(seg(3, 5, -impl.MaxValue)), 4, 5, -impl.MaxValue},
		{listOf(seg(0, monthEnd, impl.MaxValue)), 0, monthEnd, 3600 * impl.MaxValue},
		{listOf(seg(0, monthEnd, -impl.MaxValue)), 0, monthEnd, -3600 * impl.MaxValue},
		{listOf(seg(0, 9, impl.MaxValue), seg(9, 18, -impl.MaxValue)), 0, monthEnd, 0},
		{steps(maxSegments, monthEnd), 0, monthEnd, 200},
		{spaced(maxSegments), 0, monthEnd, 5 * maxSegments},
	} {
		if got := impl.SumOver(c.list, c.from, c.to); got != c.want {
			t.Errorf("SumOver(%v, %d, %d) = %d, want %d", c.list, c.from, c.to, got, c.want)
		}
	}
}

func TestSumOverInvalid(t *testing.T) {
	none := func(list []impl.Segment, from int, to int) {
		t.Helper()
		if got := impl.SumOver(list, from, to); got != 0 {
			t.Errorf("SumOver(%v, %d, %d) = %d, want 0", list, from, to, got)
		}
	}
	for _, list := range invalidLists() {
		for _, ends := range [][2]int{{0, monthEnd}, {0, 10}, {15, 2500}, {3000, 3001}} {
			none(list, ends[0], ends[1])
		}
	}
	list := listOf(seg(0, 1000, 5), seg(1000, monthEnd, 6))
	for _, bad := range noMonthEnds() {
		for _, end := range []int{0, 1, 20, impl.MaxMonth, monthEnd, -1, monthEnd + 1} {
			none(list, bad, end)
			none(list, end, bad)
			none(nil, bad, end)
		}
	}
	for _, value := range []int{impl.MaxValue + 1, -impl.MaxValue - 1, 1 << 62, math.MaxInt, math.MinInt} {
		for _, ends := range [][2]int{{0, monthEnd}, {0, 10}, {10, 20}, {20, 30}} {
			none(listOf(seg(10, 20, value)), ends[0], ends[1])
			none(listOf(seg(0, 10, 1), seg(10, 20, value), seg(20, 30, 2)), ends[0], ends[1])
			none(listOf(seg(0, 10, 1), seg(20, 30, 2), seg(30, 31, value)), ends[0], ends[1])
		}
	}
}

func TestFormatTimeline(t *testing.T) {
	for _, c := range []struct {
		list []impl.Segment
		want string
	}{
		{nil, ""},
		{listOf(), ""},
		{listOf(seg(4, 6, 7)), "1900-05..1900-06=7"},
		{listOf(seg(0, 1, 0)), "1900-01..1900-01=0"},
		{listOf(seg(11, 12, 10)), "1900-12..1900-12=10"},
		{listOf(seg(11, 13, -1)), "1900-12..1901-01=-1"},
		{listOf(seg(1047, 1060, -120)), "1987-04..1988-04=-120"},
		{listOf(seg(0, monthEnd, 5)), "1900-01..2199-12=5"},
		{listOf(seg(impl.MaxMonth, monthEnd, 1)), "2199-12..2199-12=1"},
		{listOf(seg(0, 4, 5), seg(4, 6, 7), seg(6, 10, 5)), "1900-01..1900-04=5 1900-05..1900-06=7 1900-07..1900-10=5"},
		{listOf(seg(0, 4, 5), seg(5, 6, 5)), "1900-01..1900-04=5 1900-06..1900-06=5"},
		{listOf(seg(0, 2, impl.MaxValue), seg(2, 3, -impl.MaxValue)), "1900-01..1900-02=1000000000 1900-03..1900-03=-1000000000"},
		// a value beyond the limit of facts has no rule here
		{listOf(seg(0, 2, impl.MaxValue+1), seg(2, 3, -impl.MaxValue-1)), "1900-01..1900-02=1000000001 1900-03..1900-03=-1000000001"},
		{listOf(seg(0, 2, math.MaxInt), seg(2, 3, math.MinInt)), "1900-01..1900-02=9223372036854775807 1900-03..1900-03=-9223372036854775808"},
	} {
		if got := impl.FormatTimeline(c.list); got != c.want {
			t.Errorf("FormatTimeline(%v) = %q, want %q", c.list, got, c.want)
		}
	}
	for _, list := range invalidLists() {
		if got := impl.FormatTimeline(list); got != "" {
			t.Errorf("FormatTimeline(%v) = %q, want none", list, got)
		}
	}
}

func TestFormatTimelineLong(t *testing.T) {
	texts := calendar()
	for _, list := range validLists() {
		var want []string
		for _, segment := range list {
			want = append(want, fmt.Sprintf("%s..%s=%d", texts[segment.From].text, texts[segment.To-1].text, segment.Value))
		}
		if got := impl.FormatTimeline(list); got != strings.Join(want, " ") {
			t.Errorf("FormatTimeline(%v) = %q, want %q", list, got, want)
		}
	}
}

// TestEveryMonthOfTimeline checks the promise: a timeline has the value of every month, and its
// segments are maximal.
func TestEveryMonthOfTimeline(t *testing.T) {
	random := rand.New(rand.NewSource(6))
	for range 300 {
		s := randomStore(random, random.Intn(12))
		known, from, to := random.Intn(26), random.Intn(20), random.Intn(24)
		for key := range 4 {
			list := impl.TimelineOf(s, key, known, from, to)
			if want := timeline(s, key, known, from, to); !slices.Equal(list, want) || !impl.TimelineOk(list) {
				t.Errorf("TimelineOf(%v, %d, %d, %d, %d) = %v, want %v", s, key, known, from, to, list, want)
			}
			for m := range 30 {
				want, wantOk := lastValue(s, key, m, known)
				wantOk = wantOk && from <= m && m < to
				at := impl.SegmentAt(list, m)
				if ok := at >= 0; ok != wantOk || ok && list[at].Value != want {
					t.Errorf("month %d of %v is in segment %d, want the value %d, %v", m, list, at, want, wantOk)
				}
			}
			low, high := random.Intn(26), random.Intn(26)
			if got, want := impl.SumOver(list, low, high), monthSum(list, low, high); got != want {
				t.Errorf("SumOver(%v, %d, %d) = %d, want %d", list, low, high, got, want)
			}
		}
	}
}

// TestTimelineOfParts checks that the timelines of two parts have the months of the whole, and that
// nothing that becomes known later changes them.
func TestTimelineOfParts(t *testing.T) {
	random := rand.New(rand.NewSource(66))
	for range 100 {
		s := randomStore(random, 1+random.Intn(10))
		known, middle := random.Intn(20), random.Intn(20)
		whole := impl.TimelineOf(s, 1, known, 0, 20)
		first := impl.TimelineOf(s, 1, known, 0, middle)
		second := impl.TimelineOf(s, 1, known, middle, 20)
		if got, want := impl.SumOver(first, 0, 20)+impl.SumOver(second, 0, 20), impl.SumOver(whole, 0, 20); got != want {
			t.Errorf("the parts %v and %v have the sum %d, and %v has %d", first, second, got, whole, want)
		}
		for m := range 20 {
			one, other := impl.SegmentAt(first, m), impl.SegmentAt(second, m)
			if max(one, other) >= 0 != (impl.SegmentAt(whole, m) >= 0) || one >= 0 && other >= 0 {
				t.Errorf("month %d is in segment %d of %v and in segment %d of %v, but not so in %v", m, one, first, other, second, whole)
			}
		}
		if past := impl.TimelineOf(impl.StoreAsOf(s, known), 1, impl.MaxMonth, 0, 20); !slices.Equal(past, whole) {
			t.Errorf("the timeline of %v known in %d is %v, but %v out of what was known", s, known, whole, past)
		}
	}
}

// listWithSpare returns a list that has room behind it, filled with a mark.
func listWithSpare(list []impl.Segment) []impl.Segment {
	given := make([]impl.Segment, len(list), len(list)+4)
	copy(given, list)
	room := given[len(given):cap(given)]
	for i := range room {
		room[i] = seg(-1, -2, -3)
	}
	return given
}

func TestTimelinesLeaveTheirArguments(t *testing.T) {
	for _, list := range slices.Concat(validLists(), invalidLists()) {
		given := listWithSpare(list)
		impl.TimelineOk(given)
		impl.SegmentAt(given, 5)
		impl.SegmentAt(given, 3599)
		impl.SumOver(given, 0, monthEnd)
		impl.FormatTimeline(given)
		want := listWithSpare(list)
		if !slices.Equal(given[:cap(given)], want[:cap(want)]) {
			t.Errorf("a function changes its argument %v", list)
		}
	}
	for _, s := range []impl.Store{{}, nested(), storeOf(knownFacts(3, 8)...), storeOf(knownFacts(8, 3)...), storeOf(manyFacts(impl.MaxFacts + 1)...)} {
		for _, known := range []int{0, impl.MaxMonth, -1} {
			given := withSpare(s)
			impl.TimelineOf(given, 1, known, 0, monthEnd)
			if !isWithSpare(given, s) {
				t.Errorf("TimelineOf changes its argument %v", s)
			}
		}
	}
}

// TestTimelinesShareNoMemory changes the memory of one result, with the room behind it, and of the
// argument.
func TestTimelinesShareNoMemory(t *testing.T) {
	for _, s := range []impl.Store{{}, nested(), storeOf(fact(1, 4, 6, 2, 5)), storeOf(fact(1, 0, 10, 2, 5), fact(1, 4, 6, 8, 7)), storeOf(knownFacts(8, 3)...)} {
		given := withSpare(s)
		one := impl.TimelineOf(given, 1, 9, 0, monthEnd)
		other := impl.TimelineOf(given, 1, 9, 0, monthEnd)
		want := slices.Clone(one)
		whole := append(one[:cap(one)], seg(7, 7, 7))
		for _, list := range [][]impl.Segment{one[:cap(one)], whole} {
			for i := range list {
				list[i] = seg(99, 98, 97)
			}
		}
		if !slices.Equal(other, want) || !isWithSpare(given, s) {
			t.Errorf("a change of a result for %v changes another one or the argument", s)
		}
		overwrite(given)
		if !slices.Equal(other, want) {
			t.Errorf("TimelineOf returns memory of its argument %v", s)
		}
	}
	list := listOf(seg(0, 4, 5), seg(4, 6, 7))
	text := impl.FormatTimeline(list)
	list[0], list[1] = seg(8, 9, 10), seg(11, 12, 13)
	if text != "1900-01..1900-04=5 1900-05..1900-06=7" {
		t.Errorf("FormatTimeline returns a text that its argument changes: %q", text)
	}
}
