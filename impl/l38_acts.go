package impl

const (
	AcFact  = 1
	AcPoint = 2
	AcPay   = 3
	MaxActs = 60
)

type Act struct {
	Kind  int
	Fact  Fact
	Point Point
	N     int
}

// ActOk reports whether a is valid: Kind is one of the constants; for AcPay, N is in the range 1
// to 24; Known of Fact and of Point is 0; and all fields that the act does not use (all except
// Fact for AcFact, Point for AcPoint and N for AcPay) are zero.
func ActOk(a Act) bool { return false }

// DoAct performs an act and returns the office and a number: for AcFact and AcPoint, LearnFact or
// LearnPoint, and 1 if it returns true and 0 otherwise; for AcPay, PayMonth N times (those that
// return false change nothing), and the sum of the amounts. It returns o unchanged and -1 if o or
// a is not valid.
func DoAct(o Office, a Act) (Office, int) { return Office{}, 0 }

// RunActs starts with OfficeNew(c, start), performs all acts, in order, and returns the office
// and the numbers. It returns the zero Office and nil if OfficeNew returns false or there are
// more than MaxActs acts.
func RunActs(c Case, start int, acts []Act) (Office, []int) { return Office{}, []int{} }

// StatementsOf returns, for each element of Paid, in order, the statement with its month as Month
// and as Known, and EntitlementAt with both as Cents, or nil if o is not valid.
func StatementsOf(o Office) []Statement { return []Statement{} }
