package impl

const (
	FigPension = 1
)

type Member struct {
	Birth  int
	Joined int
	Spells []Spell
	Events []Event
}

type Case struct {
	Book   Book
	Store  Store
	Series Series
	Member Member
}

// MemberOk reports whether x is valid: Birth and Joined are months, Birth is at most Joined,
// SpellsOk is true for Spells, and EventsOk is true for Events.
func MemberOk(x Member) bool { return false }

// CaseOk reports whether Book, Store, Series and Member are valid.
func CaseOk(c Case) bool { return false }

// VarsFor returns the MaxVars variables for the formulas at month m, with the facts and points
// known at known, and true:
func VarsFor(c Case, m int, known int) ([]Frac, bool) { return []Frac{}, false }

// EntitlementAt returns the monthly pension in cents: if StatusAt for Events and m is
// StPensioner, it is Figure for FigPension, m, Joined and VarsFor, but at least 0 and at most
// 10000000. It is 0 for every other status, if VarsFor or Figure returns false, or if c is not
// valid.
func EntitlementAt(c Case, m int, known int) int { return 0 }

// Entitlements returns EntitlementAt for the months from from to to-1, in order, whatever known
// is, or nil if c is not valid, from or to is not in the range 0 to MaxMonth+1, or to is greater
// than from + 240.
func Entitlements(c Case, from int, to int, known int) []int { return []int{} }

// RuleUsed returns RuleFor for FigPension, m and Joined, or -1 if c is not valid.
func RuleUsed(c Case, m int) int { return 0 }
