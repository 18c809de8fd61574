package account

import (
	"math/bits"

	"exchequer/api"
	"exchequer/u128"
)

// Debited tells whether an account's limit is exceeded, when it is debited by an amount more.
func Debited(a api.Account, amount api.U128) bool {
	if !has(a, api.DebitsLimited) {
		return false
	}
	return sum(a.DebitsPending, a.DebitsPosted, amount).more(a.CreditsPosted)
}

// Credited tells whether an account's limit is exceeded, when it is credited by an amount more.
func Credited(a api.Account, amount api.U128) bool {
	if !has(a, api.CreditsLimited) {
		return false
	}
	return sum(a.CreditsPending, a.CreditsPosted, amount).more(a.DebitsPosted)
}

// wide is a number that goes beyond 128 bits: over counts how often, as three balances may go over twice.
type wide struct{ over, hi, lo uint64 }

// sum adds all, without turning over.
func sum(l ...api.U128) wide {
	var w wide
	for _, a := range l {
		var carry uint64
		w.lo, carry = bits.Add64(w.lo, a.Lo, 0)
		w.hi, carry = bits.Add64(w.hi, a.Hi, carry)
		w.over += carry
	}
	return w
}

// more tells whether it is more than a number of 128 bits.
func (w wide) more(a api.U128) bool {
	return w.over != 0 || u128.Cmp(api.U128{Hi: w.hi, Lo: w.lo}, a) > 0
}
