package superblock

import "exchequer/api"

// What a copy's bytes are: a seal, and behind it nothing but numbers, those that stand for nothing being noughts.
const (
	imageSize   = api.CopySize * api.Sector
	sealSize    = 16
	numbersSize = imageSize - sealSize
	numberSize  = 4
	numberCount = numbersSize / numberSize
)

// fieldCount is how many numbers stand ahead of Fetching, and headsFrom how many ahead of the Heads.
const (
	fieldCount = 9
	headsFrom  = fieldCount + 2
)

// fields points at the numbers that stand ahead of Fetching, in the order of their places: one list serves to lay them and to read them.
func fields(s *api.Super) [fieldCount]*int {
	return [fieldCount]*int{
		&s.Sequence, &s.Me, &s.N,
		&s.View, &s.LogView, &s.Commit,
		&s.Mark, &s.Root.Address, &s.Root.Stamp,
	}
}

// laid tells what of the bytes of a superblock that may be stands behind their seal.
func laid(s api.Super) [numbersSize]byte {
	var b [numbersSize]byte
	put := putter(b[:])
	for _, field := range fields(&s) {
		put(*field)
	}
	fetching := 0
	if s.Fetching {
		fetching = 1
	}
	put(fetching)
	put(len(s.Heads))
	for _, h := range s.Heads {
		put(h.Op)
		put(h.View)
	}
	return b
}

// superOf tells the superblock of what stands behind a seal, and whether these are the bytes of one, be it one that may be or not.
func superOf(b []byte) (api.Super, bool) {
	var s api.Super
	next := taker(b)
	for _, field := range fields(&s) {
		*field = int(next())
	}
	fetching, heads := next(), next()
	if fetching > 1 || heads > api.MaxHeads {
		return api.Super{}, false
	}
	s.Fetching = fetching == 1
	for range heads {
		op := int(next())
		s.Heads = append(s.Heads, api.Head{Op: op, View: int(next())})
	}
	for range numberCount - headsFrom - 2*heads {
		if next() != 0 {
			return api.Super{}, false
		}
	}
	return s, true
}

// putter lays a number each time, behind the last one, its lowest byte first.
func putter(room []byte) func(int) {
	return func(x int) {
		for i := range numberSize {
			room[i] = byte(x >> (8 * i))
		}
		room = room[numberSize:]
	}
}

// taker tells the next number each time, its lowest byte being first.
func taker(b []byte) func() uint32 {
	return func() uint32 {
		var x uint32
		for i := range numberSize {
			x |= uint32(b[i]) << (8 * i)
		}
		b = b[numberSize:]
		return x
	}
}
