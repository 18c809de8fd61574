package u128

import (
	"math/bits"

	"exchequer/api"
)

// Text tells a number's digits; Parse the number of digits.
func Text(a api.U128) string {
	var digits [maxDigits]byte
	// The last digit comes out first, so the array is filled from its end on.
	at := maxDigits - 1
	a, digits[at] = cutDigit(a)
	for a != (api.U128{}) {
		at--
		a, digits[at] = cutDigit(a)
	}
	return string(digits[at:])
}

func Parse(s string) (api.U128, api.Errno) {
	if len(s) > maxDigits {
		return api.U128{}, api.ErrLong
	}
	// All bytes are looked at ahead of the sum: ErrBytes goes ahead of ErrOver.
	if !isNumber(s) {
		return api.U128{}, api.ErrBytes
	}
	var a api.U128
	for i := range len(s) {
		next, over := putDigit(a, s[i])
		if over {
			return api.U128{}, api.ErrOver
		}
		a = next
	}
	return a, api.OK
}

// cutDigit tells a number without its last digit, and that digit as a byte of text.
func cutDigit(a api.U128) (api.U128, byte) {
	hi, rest := bits.Div64(0, a.Hi, 10)
	lo, last := bits.Div64(rest, a.Lo, 10)
	return api.U128{Hi: hi, Lo: lo}, '0' + byte(last)
}

// putDigit tells a number with one digit more; true: it goes over.
func putDigit(a api.U128, digit byte) (api.U128, bool) {
	carry, lo := bits.Mul64(a.Lo, 10)
	over, hi := bits.Mul64(a.Hi, 10)
	tenfold, wraps := Add(api.U128{Hi: hi, Lo: lo}, api.U128{Hi: carry})
	if over != 0 || wraps {
		return api.U128{}, true
	}
	return Add(tenfold, Of(uint64(digit-'0')))
}

// isNumber tells whether a text is 0 alone, or digits that do not begin with 0.
func isNumber(s string) bool {
	if s == "" || s[0] == '0' && len(s) > 1 {
		return false
	}
	for i := range len(s) {
		if s[i] < '0' || s[i] > '9' {
			return false
		}
	}
	return true
}
