package freeset

import (
	"math/bits"

	"exchequer/api"
)

// words have a bit for each block that a set may have.
type words [api.MaxBlocks / 64]uint64

// place tells in which word a block's bit stands, and that bit.
func place(block int) (at int, bit uint64) {
	return (block - 1) / 64, 1 << ((block - 1) % 64)
}

// has tells whether a block's bit is set.
func (w *words) has(block int) bool {
	at, bit := place(block)
	return w[at]&bit != 0
}

// put sets a block's bit, or takes it away.
func (w *words) put(block int, is bool) {
	at, bit := place(block)
	w[at] &^= bit
	if is {
		w[at] |= bit
	}
}

// lowest tells the lowest block whose bit is set, and whether there is one.
func (w *words) lowest() (block int, there bool) {
	for at, word := range w {
		if word != 0 {
			return at*64 + bits.TrailingZeros64(word) + 1, true
		}
	}
	return 0, false
}

// with tells words that have the bits of both.
func (w words) with(o words) words {
	for at := range w {
		w[at] |= o[at]
	}
	return w
}
