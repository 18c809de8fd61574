package freeset

import "iter"

// countSize is how many bytes say how many blocks there are, ahead of the blocks' bits.
const countSize = 2

// perByte is how many blocks have their bits in one byte.
const perByte = 4

// size tells how many bytes a set of so many blocks has.
func size(blocks int) int { return countSize + (blocks+perByte-1)/perByte }

// stand tells in which byte of a set's a block's two bits stand, and from which bit of it on.
func stand(block int) (at, shift int) {
	return countSize + (block-1)/perByte, (block - 1) % perByte * 2
}

// each goes through the blocks, by rising numbers, and how they are.
func (s *Set) each() iter.Seq2[int, int] {
	return through(s.blocks, s.how)
}

// said goes through the blocks of bytes that are as many as those of a set of so many, by rising numbers, and how they are said to be.
func said(b []byte, blocks int) iter.Seq2[int, int] {
	return through(blocks, func(block int) int {
		at, shift := stand(block)
		return int(b[at] >> shift & 3)
	})
}

// through goes through so many blocks, by rising numbers, and how they are told to be.
func through(blocks int, how func(block int) int) iter.Seq2[int, int] {
	return func(yield func(int, int) bool) {
		for block := 1; block <= blocks; block++ {
			if !yield(block, how(block)) {
				return
			}
		}
	}
}

// count tells how many blocks are so.
func count(blocks iter.Seq2[int, int], so int) int {
	n := 0
	for _, how := range blocks {
		if how == so {
			n++
		}
	}
	return n
}
