package block_test

import (
	"bytes"
	"fmt"
	"testing"

	"exchequer/api"
	"exchequer/block"
)

// P10.1: of bytes that the chapter's words lay, Read tells the block.
func TestRead(t *testing.T) {
	for _, b := range blocks() {
		if x, e := block.Read(laid(b)); e != api.OK || !same(x, b) {
			t.Errorf("%+v, %v, want %+v", x, e, b)
		}
	}
}

// P10.1: 1,024 bytes alone are read; that comes ahead of the seal.
func TestReadOfOtherCounts(t *testing.T) {
	refuseRead(t, "nil", nil, api.ErrBytes)
	for _, b := range []api.GridBlock{least(), of(3, 40), greatest()} {
		raw := append(laid(b), some(2048)...)
		for count := range len(raw) {
			if count == 1024 {
				continue
			}
			refuseRead(t, fmt.Sprint(count, " bytes"), raw[:count], api.ErrBytes)
			refuseRead(t, fmt.Sprint(count, " noughts"), make([]byte, count), api.ErrBytes)
		}
		refuseRead(t, "a nought ahead", append([]byte{0}, raw[:1024]...), api.ErrBytes)
		refuseRead(t, "a nought behind", append(bytes.Clone(raw[:1024]), 0), api.ErrBytes)
		refuseRead(t, "two of them", append(bytes.Clone(raw[:1024]), raw[:1024]...), api.ErrBytes)
	}
	// Other counts whose own seal is right are no block's either.
	for _, count := range []int{16, 17, 36, 164, 256, 1023, 1025, 2048} {
		raw := make([]byte, count)
		copy(raw, laid(of(3, 40)))
		refuseRead(t, "another count, sealed", reseal(raw), api.ErrBytes)
	}
	refuseRead(t, "1,024 noughts", make([]byte, 1024), api.ErrSeal)
	refuseRead(t, "1,024 noughts, sealed", reseal(make([]byte, 1024)), api.ErrBytes)
}

// P10.1: a seal that is not that of the others, whatever it is.
func TestReadOfOtherSeals(t *testing.T) {
	for _, b := range []api.GridBlock{least(), of(3, 40), greatest()} {
		raw := laid(b)
		for at := range 16 {
			for x := 1; x < 256; x++ {
				raw[at] ^= byte(x)
				refuseRead(t, fmt.Sprint("the seal, at ", at), raw, api.ErrSeal)
				raw[at] ^= byte(x)
			}
		}
		clear(raw[:16])
		refuseRead(t, "a seal of noughts", raw, api.ErrSeal)
		copy(raw, laid(of(3, 41)))
		copy(raw[16:], laid(b)[16:])
		refuseRead(t, "another block's seal", raw, api.ErrSeal)
	}
}

// place is where a number of four bytes stands that Read looks at, and what it may be there.
type place struct {
	name        string
	at          int
	least, most uint32
}

// places are those of Kind, Address and Stamp, and of each of as many Refs as a block has.
func places(count int) []place {
	l := []place{{"Kind", kindAt, 1, 15}, {"Address", addressAt, 1, 512}, {"Stamp", stampAt, 0, most}}
	for i := range count {
		l = append(l,
			place{fmt.Sprintf("Address of the Ref %d of %d", i, count), refsAt + 8*i, 1, 512},
			place{fmt.Sprintf("Stamp of the Ref %d of %d", i, count), refsAt + 8*i + 4, 0, most},
		)
	}
	return l
}

// P10.1: a right seal over a Kind, an Address or a Stamp that may not be, at the edges and far off; and over those that may.
func TestSealedNumbers(t *testing.T) {
	for _, count := range counts() {
		for _, x := range places(count) {
			for _, v := range []uint32{x.least, x.least + 1, x.most - 1, x.most} {
				raw := laid(of(count, 20))
				put(raw, x.at, v)
				if b, e := block.Read(reseal(raw)); e != api.OK || !bytes.Equal(laid(b), raw) {
					t.Errorf("%s: %d: %+v, %v", x.name, v, b, e)
				}
			}
			wrong := []uint32{x.most + 1, x.most + 2, x.most | 1<<31, x.least | 1<<31, 1<<31 - 1, 1 << 31, 1<<31 + 1, 1<<32 - 5, 1<<32 - 1, x.least - 1}
			for _, v := range wrong {
				if v >= x.least && v <= x.most {
					t.Fatal(x.name, v)
				}
				raw := laid(of(count, 20))
				put(raw, x.at, v)
				if get(laid(of(count, 20)), x.at) != v {
					refuseRead(t, x.name+", the old seal", raw, api.ErrSeal)
				}
				refuseRead(t, fmt.Sprintf("%s: %d", x.name, v), reseal(raw), api.ErrBytes)
			}
		}
	}
}

// P10.1: a right seal over a number of Refs that may not be, or that is not how many there are.
func TestSealedCounts(t *testing.T) {
	for _, count := range counts() {
		raw := laid(of(count, 20))
		for said := range uint32(300) {
			put(raw, countAt, said)
			reseal(raw)
			// Fewer leave Refs where noughts must stand; more make Refs of noughts, whose Address may not be.
			if said != uint32(count) {
				refuseRead(t, fmt.Sprintf("%d Refs, said to be %d", count, said), raw, api.ErrBytes)
			}
			wantRead(t, "a number of Refs", raw)
		}
		for _, said := range []uint32{1 << 16, 1<<16 + 1, 1 << 24, 1 << 28, 1<<29 + 1, 1<<31 - 1, 1 << 31, 1<<31 + 1, 1<<32 - 1, 1<<32 - 16} {
			put(raw, countAt, said)
			refuseRead(t, fmt.Sprintf("%d Refs, said to be %d", count, said), reseal(raw), api.ErrBytes)
		}
	}
	// A Ref of which the one number is nought and the other is not is one, too, where noughts must stand.
	for i := range 16 {
		for _, at := range []int{refsAt + 8*i, refsAt + 8*i + 4} {
			raw := laid(of(i, 20))
			put(raw, at, 1)
			refuseRead(t, fmt.Sprintf("half a Ref behind %d", i), reseal(raw), api.ErrBytes)
		}
	}
}

// P10.1: a right seal over a number of bytes of the body that may not be, or that is fewer than there are; more bytes are noughts of the body.
func TestSealedSizes(t *testing.T) {
	for _, size := range []int{0, 1, 2, 300, 859, 860} {
		for _, count := range []int{0, 3, 16} {
			b := of(count, size)
			raw := laid(b)
			for said := range uint32(1100) {
				put(raw, sizeAt, said)
				reseal(raw)
				wantRead(t, fmt.Sprintf("%d bytes, said to be %d", size, said), raw)
				if said < uint32(size) || said > 860 {
					refuseRead(t, fmt.Sprintf("%d bytes, said to be %d", size, said), raw, api.ErrBytes)
				} else if x := read(t, raw); len(x.Body) != int(said) || !bytes.HasPrefix(x.Body, b.Body) {
					t.Errorf("%d bytes, said to be %d: %x", size, said, x.Body)
				}
			}
			for _, said := range []uint32{1 << 16, 1<<16 + 1, 1 << 24, 1<<31 - 1, 1 << 31, 1<<31 + 1, 1<<32 - 1, 1<<32 - 860} {
				put(raw, sizeAt, said)
				refuseRead(t, fmt.Sprintf("%d bytes, said to be %d", size, said), reseal(raw), api.ErrBytes)
			}
		}
	}
}

// P10.1: a right seal over bytes that are not noughts behind the last Ref, and behind the body.
func TestSealedNoughts(t *testing.T) {
	for _, count := range counts() {
		for _, size := range []int{0, 1, 2, 500, 859, 860} {
			raw := laid(of(count, size))
			for at := refsAt + 8*count; at < 1024; at++ {
				if at >= bodyAt && at < bodyAt+size {
					continue
				}
				for _, v := range []byte{1, 0x80, 0xff} {
					raw[at] = v
					refuseRead(t, fmt.Sprintf("%d Refs, %d bytes: %d at %d", count, size, v, at), reseal(raw), api.ErrBytes)
				}
				raw[at] = 0
			}
			if !bytes.Equal(reseal(raw), laid(of(count, size))) {
				t.Fatal("the bytes are not what they were")
			}
			wantRead(t, "as it was", raw)
		}
	}
	// The noughts end where the body begins, and begin again where it ends.
	for _, size := range []int{0, 1, 859} {
		raw := laid(of(15, size))
		for _, at := range []int{bodyAt - 1, bodyAt + size, 1023} {
			wrong := bytes.Clone(raw)
			wrong[at] = 1
			refuseRead(t, fmt.Sprint("no nought at ", at), reseal(wrong), api.ErrBytes)
		}
	}
}

// P10.1: each byte behind the seal with each value, under a right seal: read just where the chapter's words take it.
func TestEachSealedByte(t *testing.T) {
	for _, b := range []api.GridBlock{least(), of(1, 2), of(5, 300), of(15, 859), greatest()} {
		raw := laid(b)
		for at := 16; at < 1024; at++ {
			was := raw[at]
			step := 1
			if at >= refsAt+24 && at%8 != 0 {
				step = 37
			}
			for v := 0; v < 256; v += step {
				raw[at] = byte(v)
				wantRead(t, fmt.Sprintf("%d at %d", v, at), reseal(raw))
			}
			raw[at] = was
		}
	}
}

// P10.1: the order of the errors, with more than one thing wrong.
func TestOrderOfErrors(t *testing.T) {
	raw := laid(of(3, 40))
	put(raw, kindAt, 0)
	refuseRead(t, "too few, not sealed, Kind 0", raw[:1023], api.ErrBytes)
	refuseRead(t, "too many, not sealed, Kind 0", append(bytes.Clone(raw), 0), api.ErrBytes)
	for _, wrong := range []func([]byte){
		func(raw []byte) { put(raw, kindAt, 16) },
		func(raw []byte) { put(raw, addressAt, 0) },
		func(raw []byte) { put(raw, stampAt, most+1) },
		func(raw []byte) { put(raw, countAt, 17) },
		func(raw []byte) { put(raw, sizeAt, 861) },
		func(raw []byte) { put(raw, refsAt, 513) },
		func(raw []byte) { put(raw, refsAt+20, 1<<32-1) },
		func(raw []byte) { raw[bodyAt-1] = 1 },
		func(raw []byte) { raw[1023] = 1 },
	} {
		raw := laid(of(3, 40))
		wrong(raw)
		refuseRead(t, "not sealed, and no block's", raw, api.ErrSeal)
		reseal(raw)
		refuseRead(t, "no block's", raw, api.ErrBytes)
		refuseRead(t, "no block's, a byte lacking", raw[:1023], api.ErrBytes)
		raw[0] ^= 1
		refuseRead(t, "no block's, the seal turned", raw, api.ErrSeal)
	}
}

// Rule 4: what Read is handed stays as it was, its spare room is not looked at, and an answer is new memory, its spare room too.
func TestReadMemory(t *testing.T) {
	for _, count := range counts() {
		for _, size := range []int{0, 1, 500, 859, 860} {
			b := of(count, size)
			room := append(laid(b), some(100)...)
			was := bytes.Clone(room)
			x, again := read(t, room[:1024]), read(t, room[:1024])
			if !same(x, b) {
				t.Errorf("%d Refs, %d bytes: %+v", count, size, x)
			}
			spoil(x.Body)
			spoilRefs(x.Refs)
			if !bytes.Equal(room, was) {
				t.Errorf("%d Refs, %d bytes: what was handed in has changed, or an answer shares it", count, size)
			}
			spoil(room)
			if !same(again, b) {
				t.Errorf("%d Refs, %d bytes: two answers share memory, or what was handed in is kept", count, size)
			}
		}
	}
	wrong := laid(of(3, 40))
	wrong[100] ^= 1
	was := bytes.Clone(wrong)
	refuseRead(t, "a byte turned", wrong, api.ErrSeal)
	wrong = reseal(wrong)
	copy(was, wrong[:16])
	refuseRead(t, "a byte turned, sealed", wrong, api.ErrBytes)
	if !bytes.Equal(wrong, was) {
		t.Error("what was refused has changed")
	}
}

// Refs are clipped: what is put behind those of an answer is put elsewhere, and nothing stands there.
func TestReadRefsAreClipped(t *testing.T) {
	for _, count := range counts() {
		b := read(t, laid(of(count, 9)))
		if len(b.Refs) != count || cap(b.Refs) != count {
			t.Errorf("%d Refs: %d, with room for %d", count, len(b.Refs), cap(b.Refs))
		}
	}
}
