package checksum

import "math/bits"

const (
	blockSize = 64
	wordSize  = 4
	rounds    = 64
	// countSize is how many bytes the count of bits takes, at the end of the last block.
	countSize = 8
)

// words are the eight words of a digest: a to h.
type words [8]uint32

// digest tells the words of bytes' SHA-256 digest.
func digest(b []byte) words {
	h := firstWords()
	rest := b
	for len(rest) >= blockSize {
		h = h.behind(blockWords(rest))
		rest = rest[blockSize:]
	}
	// What is left is copied: the byte 128, the noughts and the count of bits are not laid into the caller's bytes.
	var last [2 * blockSize]byte
	left := copy(last[:], rest)
	last[left] = 128
	end := blockSize
	if left >= blockSize-countSize {
		end = 2 * blockSize
	}
	count := uint64(len(b)) * 8
	for i := range countSize {
		last[end-1-i] = byte(count >> (8 * i))
	}
	for at := 0; at < end; at += blockSize {
		h = h.behind(blockWords(last[at:]))
	}
	return h
}

// blockWords tells the 16 words of the block with which bytes begin, and the 48 that follow of them.
func blockWords(b []byte) [rounds]uint32 {
	var w [rounds]uint32
	for t := range blockSize / wordSize {
		x := b[t*wordSize:]
		w[t] = uint32(x[0])<<24 | uint32(x[1])<<16 | uint32(x[2])<<8 | uint32(x[3])
	}
	for t := blockSize / wordSize; t < rounds; t++ {
		x, y := w[t-15], w[t-2]
		s0 := right(x, 7) ^ right(x, 18) ^ x>>3
		s1 := right(y, 17) ^ right(y, 19) ^ y>>10
		w[t] = s1 + w[t-7] + s0 + w[t-16]
	}
	return w
}

// behind tells what the words are behind one more block. The rounds work on variables, which the compiler keeps in registers, as it does not an array's words.
func (h words) behind(w [rounds]uint32) words {
	k := constants()
	a, b, c, d, e, f, g, last := h[0], h[1], h[2], h[3], h[4], h[5], h[6], h[7]
	for t := range rounds {
		t1 := last + (right(e, 6) ^ right(e, 11) ^ right(e, 25)) + (e&f ^ ^e&g) + k[t] + w[t]
		t2 := (right(a, 2) ^ right(a, 13) ^ right(a, 22)) + (a&b ^ a&c ^ b&c)
		last, g, f, e, d, c, b, a = g, f, e, d+t1, c, b, a, t1+t2
	}
	now := words{a, b, c, d, e, f, g, last}
	for i := range now {
		now[i] += h[i]
	}
	return now
}

// right turns a word right: math/bits turns left alone.
func right(x uint32, by int) uint32 { return bits.RotateLeft32(x, -by) }

// firstWords are the first 32 bits behind the point of the square roots of the eight least primes.
func firstWords() words {
	return words{
		0x6a09e667, 0xbb67ae85, 0x3c6ef372, 0xa54ff53a, 0x510e527f, 0x9b05688c, 0x1f83d9ab, 0x5be0cd19,
	}
}

// constants are the first 32 bits behind the point of the cube roots of the 64 least primes.
func constants() [rounds]uint32 {
	return [rounds]uint32{
		0x428a2f98, 0x71374491, 0xb5c0fbcf, 0xe9b5dba5, 0x3956c25b, 0x59f111f1, 0x923f82a4, 0xab1c5ed5,
		0xd807aa98, 0x12835b01, 0x243185be, 0x550c7dc3, 0x72be5d74, 0x80deb1fe, 0x9bdc06a7, 0xc19bf174,
		0xe49b69c1, 0xefbe4786, 0x0fc19dc6, 0x240ca1cc, 0x2de92c6f, 0x4a7484aa, 0x5cb0a9dc, 0x76f988da,
		0x983e5152, 0xa831c66d, 0xb00327c8, 0xbf597fc7, 0xc6e00bf3, 0xd5a79147, 0x06ca6351, 0x14292967,
		0x27b70a85, 0x2e1b2138, 0x4d2c6dfc, 0x53380d13, 0x650a7354, 0x766a0abb, 0x81c2c92e, 0x92722c85,
		0xa2bfe8a1, 0xa81a664b, 0xc24b8b70, 0xc76c51a3, 0xd192e819, 0xd6990624, 0xf40e3585, 0x106aa070,
		0x19a4c116, 0x1e376c08, 0x2748774c, 0x34b0bcb5, 0x391c0cb3, 0x4ed8aa4a, 0x5b9cca4f, 0x682e6ff3,
		0x748f82ee, 0x78a5636f, 0x84c87814, 0x8cc70208, 0x90befffa, 0xa4506ceb, 0xbef9a3f7, 0xc67178f2,
	}
}
