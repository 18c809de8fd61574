package u128

import "exchequer/api"

// Bytes tells a number's bytes, the lowest first; Read the number of bytes.
func Bytes(a api.U128) [16]byte {
	var b [size]byte
	for i := range 8 {
		b[i] = byte(a.Lo >> (8 * i))
		b[8+i] = byte(a.Hi >> (8 * i))
	}
	return b
}

func Read(b []byte) (api.U128, api.Errno) {
	if len(b) != size {
		return api.U128{}, api.ErrBytes
	}
	return api.U128{Hi: word(b[8:]), Lo: word(b[:8])}, api.OK
}

// Key tells a number's bytes, the highest first; ReadKey the number of these.
func Key(a api.U128) []byte {
	k := make([]byte, size)
	for i, x := range Bytes(a) {
		k[size-1-i] = x
	}
	return k
}

func ReadKey(b []byte) (api.U128, api.Errno) {
	if len(b) != size {
		return api.U128{}, api.ErrBytes
	}
	// A copy is turned, for b is not ours to change.
	var turned [size]byte
	for i, x := range b {
		turned[size-1-i] = x
	}
	return Read(turned[:])
}

// word tells the word whose bytes, the lowest first, are the eight of b.
func word(b []byte) uint64 {
	var w uint64
	for i, x := range b {
		w |= uint64(x) << (8 * i)
	}
	return w
}
