package block

import "exchequer/api"

// sealSize is how many bytes the seal has, numberSize how many each number behind it, and refsSize how many the places of all Refs that a block may have: its body stands behind these, however few it has.
const (
	sealSize   = 16
	numberSize = 4
	refsSize   = api.MaxRefs * 2 * numberSize
)

// layBlock lays what stands behind the seal of a block that may be, into noughts: what is not laid stays so.
func layBlock(rest []byte, b api.GridBlock) {
	rest = lay(rest, b.Kind)
	rest = layRef(rest, b.Ref)
	rest = lay(rest, len(b.Refs))
	rest = lay(rest, len(b.Body))
	rest = layRefs(rest, b.Refs)
	copy(rest, b.Body)
}

// takeBlock tells the block of what stands behind a seal, and whether these are the bytes of one, be it one that may be or not.
func takeBlock(rest []byte) (api.GridBlock, bool) {
	var b api.GridBlock
	var refs, size int
	b.Kind, rest = take(rest)
	b.Ref, rest = takeRef(rest)
	refs, rest = take(rest)
	size, rest = take(rest)
	// Where an int has 32 bits, a number beyond those comes out below nought.
	if refs < 0 || refs > api.MaxRefs || size < 0 || size > api.MaxBlockBody {
		return api.GridBlock{}, false
	}
	all, rest := takeRefs(rest)
	if !noRefs(all[refs:]) || !noughts(rest[size:]) {
		return api.GridBlock{}, false
	}
	// Clipped, as the places behind the last Ref are none of the answer's.
	b.Refs = all[:refs:refs]
	b.Body = make([]byte, size)
	copy(b.Body, rest)
	return b, true
}

// The functions that follow are handed a cursor, which is what is left of the bytes, and answer what is left behind their own.

// lay lays a number, its lowest byte first.
func lay(rest []byte, x int) []byte {
	for i := range numberSize {
		rest[i] = byte(x >> (8 * i))
	}
	return rest[numberSize:]
}

func layRef(rest []byte, r api.Ref) []byte { return lay(lay(rest, r.Address), r.Stamp) }

// layRefs lays Refs into their places; the cursor goes on behind all of these.
func layRefs(rest []byte, refs []api.Ref) []byte {
	room := rest[:refsSize:refsSize]
	for _, r := range refs {
		room = layRef(room, r)
	}
	return rest[refsSize:]
}

// take tells the number that comes next, its lowest byte being first.
func take(rest []byte) (int, []byte) {
	var x uint32
	for i, c := range rest[:numberSize] {
		x |= uint32(c) << (8 * i)
	}
	return int(x), rest[numberSize:]
}

func takeRef(rest []byte) (api.Ref, []byte) {
	var r api.Ref
	r.Address, rest = take(rest)
	r.Stamp, rest = take(rest)
	return r, rest
}

// takeRefs tells what stands in the places of all Refs.
func takeRefs(rest []byte) ([]api.Ref, []byte) {
	refs := make([]api.Ref, api.MaxRefs)
	for i := range refs {
		refs[i], rest = takeRef(rest)
	}
	return refs, rest
}

// noRefs tells whether nothing but noughts stands in the places of Refs.
func noRefs(refs []api.Ref) bool {
	for _, r := range refs {
		if r != (api.Ref{}) {
			return false
		}
	}
	return true
}

// noughts tells whether all bytes are noughts.
func noughts(b []byte) bool {
	for _, c := range b {
		if c != 0 {
			return false
		}
	}
	return true
}
