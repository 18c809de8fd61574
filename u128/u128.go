// Package u128 is layer 1: numbers of 128 bits: see shared/doc/01-u128.md.
package u128

import (
	"cmp"
	"math/bits"

	"exchequer/api"
)

const (
	size      = 16 // bytes of a number
	maxDigits = 39 // digits of 2^128 - 1
)

// Of tells the number of a word.
func Of(n uint64) api.U128 { return api.U128{Lo: n} }

// Cmp compares.
func Cmp(a, b api.U128) int {
	return cmp.Or(cmp.Compare(a.Hi, b.Hi), cmp.Compare(a.Lo, b.Lo))
}

// Add adds; true: it goes over.
func Add(a, b api.U128) (api.U128, bool) {
	lo, carry := bits.Add64(a.Lo, b.Lo, 0)
	hi, over := bits.Add64(a.Hi, b.Hi, carry)
	if over != 0 {
		return api.U128{}, true
	}
	return api.U128{Hi: hi, Lo: lo}, false
}

// Sub takes away; true: it goes below nought.
func Sub(a, b api.U128) (api.U128, bool) {
	lo, borrow := bits.Sub64(a.Lo, b.Lo, 0)
	hi, below := bits.Sub64(a.Hi, b.Hi, borrow)
	if below != 0 {
		return api.U128{}, true
	}
	return api.U128{Hi: hi, Lo: lo}, false
}

// Sum adds all; true: it goes over.
func Sum(l []api.U128) (api.U128, bool) {
	var sum api.U128
	for _, a := range l {
		next, over := Add(sum, a)
		if over {
			// No number is below nought, so what has gone over stays over whatever comes behind.
			return api.U128{}, true
		}
		sum = next
	}
	return sum, false
}
