package block_test

import (
	"bytes"
	"crypto/sha256"
	"encoding/binary"
	"slices"
	"testing"

	"exchequer/api"
	"exchequer/block"
)

// most is the greatest that a Stamp may be.
const most = 1 << 30

// Where the numbers, the Refs and the body stand.
const (
	kindAt    = 16
	addressAt = 20
	stampAt   = 24
	countAt   = 28
	sizeAt    = 32
	refsAt    = 36
	bodyAt    = 164
)

// reseal lays the seal anew, by the library's digest, so that what was changed behind it is sealed.
func reseal(raw []byte) []byte {
	whole := sha256.Sum256(raw[16:])
	copy(raw[:16], whole[:16])
	return raw
}

// put lays a number of four bytes.
func put(raw []byte, at int, x uint32) { binary.LittleEndian.PutUint32(raw[at:], x) }

// get tells a number of four bytes.
func get(raw []byte, at int) uint32 { return binary.LittleEndian.Uint32(raw[at:]) }

// laid is a block's bytes, laid by the chapter's words.
func laid(b api.GridBlock) []byte {
	raw := make([]byte, 1024)
	put(raw, kindAt, uint32(b.Kind))
	put(raw, addressAt, uint32(b.Ref.Address))
	put(raw, stampAt, uint32(b.Ref.Stamp))
	put(raw, countAt, uint32(len(b.Refs)))
	put(raw, sizeAt, uint32(len(b.Body)))
	for i, r := range b.Refs {
		put(raw, refsAt+8*i, uint32(r.Address))
		put(raw, refsAt+8*i+4, uint32(r.Stamp))
	}
	copy(raw[bodyAt:], b.Body)
	return reseal(raw)
}

// parsed is what the chapter's words tell of bytes: the block, and the error.
func parsed(raw []byte) (api.GridBlock, api.Errno) {
	if len(raw) != 1024 {
		return api.GridBlock{}, api.ErrBytes
	}
	whole := sha256.Sum256(raw[16:])
	if !bytes.Equal(raw[:16], whole[:16]) {
		return api.GridBlock{}, api.ErrSeal
	}
	address := func(at int) bool { return get(raw, at) >= 1 && get(raw, at) <= 512 }
	stamp := func(at int) bool { return get(raw, at) <= most }
	count, size := get(raw, countAt), get(raw, sizeAt)
	kind := get(raw, kindAt)
	if kind < 1 || kind > 15 || !address(addressAt) || !stamp(stampAt) || count > 16 || size > 860 {
		return api.GridBlock{}, api.ErrBytes
	}
	b := api.GridBlock{Kind: int(kind), Ref: api.Ref{Address: int(get(raw, addressAt)), Stamp: int(get(raw, stampAt))}}
	at := refsAt
	for range count {
		if !address(at) || !stamp(at+4) {
			return api.GridBlock{}, api.ErrBytes
		}
		b.Refs = append(b.Refs, api.Ref{Address: int(get(raw, at)), Stamp: int(get(raw, at+4))})
		at += 8
	}
	end := bodyAt + int(size)
	if len(bytes.Trim(raw[at:bodyAt], "\x00")) != 0 || len(bytes.Trim(raw[end:], "\x00")) != 0 {
		return api.GridBlock{}, api.ErrBytes
	}
	b.Body = bytes.Clone(raw[bodyAt:end])
	return b, api.OK
}

// some is a body of bytes of which no two that stand near are the same, and of which the first and the last are no noughts.
func some(count int) []byte {
	b := make([]byte, count)
	for i := range b {
		b[i] = byte(i*i*5 + i*29 + count + 1)
	}
	if count > 0 {
		b[0] |= 1
		b[count-1] |= 1
	}
	return b
}

// refs are Refs of which no two are the same, nor two bytes of one, but where they must be.
func refs(count int) []api.Ref {
	l := make([]api.Ref, count)
	for i := range l {
		l[i] = api.Ref{Address: 0x1f0 - 17*i, Stamp: 0x31323334 - 0x01050301*i}
	}
	return l
}

// of is a block with so many Refs and such a body, in which each field is set, no two alike.
func of(count, size int) api.GridBlock {
	return api.GridBlock{Kind: 9, Ref: api.Ref{Address: 0x123, Stamp: 0x21222324}, Refs: refs(count), Body: some(size)}
}

// least is the block that may be and says no more than it must.
func least() api.GridBlock { return api.GridBlock{Kind: 1, Ref: api.Ref{Address: 1}} }

// greatest is a block of which everything is the greatest that it may be.
func greatest() api.GridBlock {
	ref := api.Ref{Address: 512, Stamp: most}
	return api.GridBlock{Kind: 15, Ref: ref, Refs: slices.Repeat([]api.Ref{ref}, 16), Body: bytes.Repeat([]byte{255}, 860)}
}

// counts and lengths are how many Refs and how many bytes of a body the tests go through.
func counts() []int { return []int{0, 1, 2, 7, 15, 16} }

func lengths() []int {
	return []int{0, 1, 2, 3, 4, 5, 91, 92, 93, 255, 256, 257, 604, 605, 858, 859, 860}
}

// blocks are blocks that may be: of each Kind, with few and with many Refs, with short and with long bodies, and at the edges.
func blocks() []api.GridBlock {
	l := []api.GridBlock{least(), greatest()}
	for kind := 1; kind <= 15; kind++ {
		b := of(kind%4, 40*kind)
		b.Kind = kind
		l = append(l, b)
	}
	for _, count := range counts() {
		for _, size := range lengths() {
			l = append(l, of(count, size))
		}
		// Bodies of noughts, and ones that begin and end with them, are told by their number of bytes alone.
		for _, size := range []int{1, 9, 860} {
			b := of(count, 0)
			b.Body = make([]byte, size)
			l = append(l, b)
			b.Body = append(make([]byte, size/2), some(size-size/2)...)
			l = append(l, b)
			b.Body = append(some(size/2), make([]byte, size-size/2)...)
			l = append(l, b)
		}
	}
	for _, address := range []int{1, 2, 255, 256, 257, 511, 512} {
		for _, stamp := range []int{0, 1, 255, 256, 65536, 1 << 24, most - 1, most} {
			b := of(3, 10)
			b.Ref = api.Ref{Address: address, Stamp: stamp}
			l = append(l, b)
			b = of(16, 10)
			b.Refs[0] = api.Ref{Address: address, Stamp: stamp}
			b.Refs[15] = api.Ref{Address: 513 - address, Stamp: most - stamp}
			l = append(l, b)
		}
	}
	// A block that names itself, or one and the same twice, may be.
	self := of(2, 5)
	self.Refs[0], self.Refs[1] = self.Ref, self.Ref
	return append(l, self)
}

// same tells whether two blocks are the same; lists that are nil or empty are.
func same(a, b api.GridBlock) bool {
	return a.Kind == b.Kind && a.Ref == b.Ref && slices.Equal(a.Refs, b.Refs) && bytes.Equal(a.Body, b.Body)
}

// copied is a block of its own that is the same, nil where it is nil.
func copied(b api.GridBlock) api.GridBlock {
	b.Refs, b.Body = slices.Clone(b.Refs), bytes.Clone(b.Body)
	return b
}

// written is Bytes' answer where none but OK may be.
func written(t testing.TB, b api.GridBlock) []byte {
	t.Helper()
	raw, e := block.Bytes(b)
	if e != api.OK || len(raw) != 1024 {
		t.Fatalf("Bytes(%+v): %d bytes, %v", b, len(raw), e)
	}
	return raw
}

// read is Read's answer where none but OK may be.
func read(t testing.TB, raw []byte) api.GridBlock {
	t.Helper()
	b, e := block.Read(raw)
	if e != api.OK {
		t.Fatalf("Read of %x: %v", raw, e)
	}
	return b
}

// wantMay wants a block to be one that may be, and its bytes to be what the chapter's words lay.
func wantMay(t testing.TB, what string, b api.GridBlock) {
	t.Helper()
	if e := block.Check(b); e != api.OK {
		t.Errorf("Check, %s: %v", what, e)
	}
	if raw, e := block.Bytes(b); e != api.OK || !bytes.Equal(raw, laid(b)) {
		t.Errorf("Bytes, %s: %x, %v", what, raw, e)
	}
}

// refuse wants a block to be one that may not be.
func refuse(t testing.TB, what string, b api.GridBlock) {
	t.Helper()
	if e := block.Check(b); e != api.ErrArg {
		t.Errorf("Check, %s: %v, want ErrArg", what, e)
	}
	if raw, e := block.Bytes(b); e != api.ErrArg || len(raw) != 0 {
		t.Errorf("Bytes, %s: %d bytes, %v, want ErrArg", what, len(raw), e)
	}
}

// refuseRead wants an error, with zero values beside it.
func refuseRead(t testing.TB, what string, raw []byte, want api.Errno) {
	t.Helper()
	if b, e := block.Read(raw); e != want || !same(b, api.GridBlock{}) {
		t.Errorf("Read, %s: %+v, %v, want %v", what, b, e, want)
	}
}

// wantRead wants Read to tell of bytes just what the chapter's words do.
func wantRead(t testing.TB, what string, raw []byte) {
	t.Helper()
	want, wrong := parsed(raw)
	if b, e := block.Read(raw); e != wrong || !same(b, want) {
		t.Errorf("Read, %s: %+v, %v, want %+v, %v", what, b, e, want, wrong)
	}
}

// spoil turns all bytes of a slice, and those of its spare room.
func spoil(b []byte) {
	b = b[:cap(b)]
	for i := range b {
		b[i] ^= 0xa5
	}
}

// spoilRefs does the same with Refs.
func spoilRefs(l []api.Ref) {
	l = l[:cap(l)]
	for i := range l {
		l[i].Address ^= 0x5a
		l[i].Stamp ^= 0xa5
	}
}

// The chapter's examples.
func TestExamples(t *testing.T) {
	b := api.GridBlock{Kind: 1, Ref: api.Ref{Address: 5, Stamp: 7}, Refs: []api.Ref{{Address: 2, Stamp: 3}}, Body: []byte("ab")}
	raw := written(t, b)
	for _, x := range []struct {
		at   int
		want byte
	}{{16, 1}, {20, 5}, {24, 7}, {28, 1}, {32, 2}, {36, 2}, {164, 97}} {
		if raw[x.at] != x.want {
			t.Errorf("at %d: %d, want %d", x.at, raw[x.at], x.want)
		}
	}
	if x := read(t, raw); !same(x, b) {
		t.Errorf("Read: %+v", x)
	}
	for at := range raw {
		turned := bytes.Clone(raw)
		turned[at] ^= 0xff
		refuseRead(t, "with a byte turned", turned, api.ErrSeal)
	}
	refuseRead(t, "of 1,023 bytes", raw[:1023], api.ErrBytes)
	for i, wrong := range []func(*api.GridBlock){
		func(b *api.GridBlock) { b.Kind = 0 },
		func(b *api.GridBlock) { b.Ref.Address = 0 },
		func(b *api.GridBlock) { b.Body = make([]byte, 861) },
		func(b *api.GridBlock) { b.Refs = refs(17) },
	} {
		x := copied(b)
		wrong(&x)
		if e := block.Check(x); e != api.ErrArg {
			t.Errorf("Check, the example %d: %v", i, e)
		}
	}
}
