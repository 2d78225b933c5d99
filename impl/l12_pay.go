package impl

const (
	KeyPay = 1
)

// FinalPay returns ValueAt for KeyPay and known (which is not checked, here and in AveragePay) in
// the last month that is less than m and for which it returns true, and true. It returns 0 and
// false if there is none, s is not valid, or m is not in the range 0 to MaxMonth+1.
func FinalPay(s Store, m int, known int) (int, bool) { return 0, false }

// AveragePay returns the mean of ValueAt for KeyPay and known over the months from from to to-1
// for which it returns true, and true. It returns the zero Frac and false if there is no such
// month, s is not valid, from or to is not in the range 0 to MaxMonth+1, or there is no valid
// fraction with this value.
func AveragePay(s Store, from int, to int, known int) (Frac, bool) { return Frac{}, false }

// BestPay returns the greatest AveragePay over all ranges of length adjacent months within the
// range from to to-1, the first month of the first such range, and true. Ranges for which
// AveragePay returns false are ignored. It returns the zero Frac, 0 and false if there is no
// range for which AveragePay returns true, s is not valid, from or to is not in the range 0 to
// MaxMonth+1, or length is not in the range 1 to 60.
func BestPay(s Store, from int, to int, length int, known int) (Frac, int, bool) {
	return Frac{}, 0, false
}

// RevaluedPay returns the sum, over the months m from from to to-1 for which ValueAt for KeyPay
// and known returns a positive value and IndexAt for m and for to-1 returns true, of that value
// multiplied by the index at to-1 and divided by the index at m, rounded down for each month. It
// returns 0 if s or x is not valid, or from or to is not in the range 0 to MaxMonth+1.
func RevaluedPay(s Store, x Series, from int, to int, known int) int { return 0 }
