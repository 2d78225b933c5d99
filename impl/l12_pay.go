package impl

const (
	KeyPay = 1
)

// maxBestLength is the greatest length of the ranges that BestPay compares. The mean of so many
// months is always a valid fraction.
const maxBestLength = 60

// The ways to compute pay are places in the table of payWays.
const (
	wayFinal = iota
	wayAverage
	wayBest
	wayRevalued
)

// payCase is what every way starts from: the pay in the months from from to to-1, as it was known in
// the month known. Only wayBest needs length, and only wayRevalued needs series.
type payCase struct {
	store  Store
	known  int
	from   int
	to     int
	length int
	series Series
}

// payTotal is what a way finds: the sum of the pay in so many months of a range that begins with
// first. A way leaves out what its function has no use for.
type payTotal struct {
	sum    int
	months int
	first  int
}

type payWay func(c payCase) payTotal

// FinalPay returns the pay in the last month before m that has pay, as it was known in the month
// known, and true, or 0 and false if there is none or s or m is not valid.
func FinalPay(s Store, m int, known int) (int, bool) {
	final := payCase{store: s, known: known, to: m}.by(wayFinal)
	return final.sum, final.months > 0
}

// AveragePay returns the mean of the pay over those months from from to to-1 that have pay, as it
// was known in the month known, and true. It returns the zero Frac and false if there is none, s,
// from or to is not valid, or the mean is no valid fraction.
func AveragePay(s Store, from int, to int, known int) (Frac, bool) {
	return payCase{store: s, known: known, from: from, to: to}.by(wayAverage).mean()
}

// BestPay returns the greatest AveragePay of so many adjacent months within those from from to to-1,
// the first month of the first range that has it, and true. It returns the zero Frac, 0 and false if
// no range has one, or s, from, to or length is not valid.
func BestPay(s Store, from int, to int, length int, known int) (Frac, int, bool) {
	if length < 1 || length > maxBestLength {
		return Frac{}, 0, false
	}
	best := payCase{store: s, known: known, from: from, to: to, length: length}.by(wayBest)
	mean, ok := best.mean()
	return mean, best.first, ok
}

// RevaluedPay returns the sum of the positive pay of the months from from to to-1, each multiplied by
// the index of the month to-1, divided by that of its own month and rounded down. Months without an
// index do not count. It returns 0 if s, x, from or to is not valid.
func RevaluedPay(s Store, x Series, from int, to int, known int) int {
	return payCase{store: s, known: known, from: from, to: to, series: x}.by(wayRevalued).sum
}

func payWays() []payWay {
	return []payWay{
		wayFinal:    payCase.final,
		wayAverage:  payCase.average,
		wayBest:     payCase.best,
		wayRevalued: payCase.revalued,
	}
}

// by returns what the way finds for c, or the total of 0 months if c is not valid. A case without a
// series has the empty one, which is valid.
func (c payCase) by(way int) payTotal {
	if !StoreOk(c.store) || !SeriesOk(c.series) || !isMonthEnd(c.from) || !isMonthEnd(c.to) {
		return payTotal{}
	}
	return payWays()[way](c)
}

// final finds the last month by the ends of the facts, of which there are far fewer than months.
func (c payCase) final() payTotal {
	last := -1
	for _, f := range c.store.Facts {
		if f.Key == KeyPay && f.Known <= c.known && MonthsIn(f.From, f.To, c.from, c.to) > 0 {
			last = max(last, min(f.To, c.to)-1)
		}
	}
	// No fact contains the month -1.
	value, ok := ValueAt(c.store, KeyPay, last, c.known)
	if !ok {
		return payTotal{}
	}
	return payTotal{sum: value, months: 1}
}

func (c payCase) average() payTotal { return totalIn(c.history(), c.from, c.to) }

func (c payCase) best() payTotal {
	history := c.history()
	var best payTotal
	for first := c.from; first+c.length <= c.to; first++ {
		if total := totalIn(history, first, first+c.length); total.exceeds(best) {
			best = total
		}
	}
	return best
}

func (c payCase) revalued() payTotal {
	sum := 0
	// If this is not found, no month before it has an index either, and none counts.
	last, _ := IndexAt(c.series, c.to-1, c.known)
	for _, segment := range c.history() {
		for m := segment.From; m < segment.To; m++ {
			index, ok := IndexAt(c.series, m, c.known)
			if ok && segment.Value > 0 {
				sum += segment.Value * last / index
			}
		}
	}
	return payTotal{sum: sum}
}

// history returns the pay in the months of c. Nothing becomes known after the last month, so that
// every later known, with which there is no timeline, is as good as that month.
func (c payCase) history() []Segment {
	return TimelineOf(c.store, KeyPay, min(c.known, MaxMonth), c.from, c.to)
}

// totalIn returns the total of the months from from to to-1.
func totalIn(history []Segment, from int, to int) payTotal {
	total := payTotal{first: from}
	for _, segment := range history {
		months := MonthsIn(segment.From, segment.To, from, to)
		total.sum += segment.Value * months
		total.months += months
	}
	return total
}

// mean returns the zero Frac and false for 0 months too, because they are the denominator.
func (t payTotal) mean() (Frac, bool) { return Frac{t.sum, t.months}.reduced() }

// exceeds reports whether t has a mean, and other has none or a lesser one.
func (t payTotal) exceeds(other payTotal) bool {
	if other.months == 0 {
		return t.months > 0
	}
	// Without months t has the sum 0 too, and both products are 0.
	return t.sum*other.months > other.sum*t.months
}
