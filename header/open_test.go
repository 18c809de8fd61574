package header_test

import (
	"bytes"
	"encoding/binary"
	"testing"

	"exchequer/api"
	"exchequer/header"
)

// P4.2: of bytes that the chapter's words lay, Head tells the header and Open the message.
func TestHeadAndOpen(t *testing.T) {
	for _, m := range messages() {
		b := laid(m.H, m.Body)
		if h, e := header.Head(b[:256]); e != api.OK || h != m.H {
			t.Errorf("Head: %+v, %v, want %+v", h, e, m.H)
		}
		if x, e := header.Open(b); e != api.OK || !same(x, m) {
			t.Errorf("Open: %+v, %v, want %+v", x, e, m)
		}
	}
	for _, x := range numbers() {
		h := least()
		*x.of(&h) = x.most
		b := laid(h, make([]byte, h.Size))
		if got, e := header.Head(b[:256]); e != api.OK || got != h {
			t.Errorf("%s alone: %+v, %v", x.name, got, e)
		}
	}
}

// P4.2: Head takes 256 bytes alone; that comes ahead of the seal.
func TestHeadOfOtherCounts(t *testing.T) {
	b := laid(full(), some(300))
	for _, count := range []int{0, 1, 15, 16, 17, 108, 240, 254, 255, 257, 258, 512, 556} {
		refuseHead(t, "another count", b[:count], api.ErrBytes)
		refuseHead(t, "another count of noughts", make([]byte, count), api.ErrBytes)
	}
	refuseHead(t, "nil", nil, api.ErrBytes)
	refuseHead(t, "256 noughts", make([]byte, 256), api.ErrSeal)
}

// P4.2: fewer than 256 bytes, and a byte too few or too many behind the header; the seal of the body is looked at behind that.
func TestOpenOfOtherCounts(t *testing.T) {
	refuseOpen(t, "nil", nil, api.ErrBytes)
	for _, count := range []int{0, 1, 2, 1023, 1024} {
		b := laid(full(), some(count))
		for _, fewer := range []int{0, 1, 16, 255} {
			refuseOpen(t, "fewer than a header", b[:fewer], api.ErrBytes)
		}
		if count > 0 {
			refuseOpen(t, "a header alone", b[:256], api.ErrBytes)
			refuseOpen(t, "a byte too few", b[:len(b)-1], api.ErrBytes)
		}
		refuseOpen(t, "a nought too many", append(bytes.Clone(b), 0), api.ErrBytes)
		refuseOpen(t, "a byte too many", append(bytes.Clone(b), 7), api.ErrBytes)
		refuseOpen(t, "a thousand too many", append(bytes.Clone(b), make([]byte, 1000)...), api.ErrBytes)
	}
	b := laid(full(), nil)
	if m, e := header.Open(b); e != api.OK || m.H != full() || len(m.Body) != 0 {
		t.Errorf("256 bytes: %+v, %v", m, e)
	}
	refuseOpen(t, "256 noughts", make([]byte, 256), api.ErrSeal)
}

// P4.2: a header whose seal is right, but a number of which may not be.
func TestSealedThatMayNotBe(t *testing.T) {
	for _, x := range numbers() {
		wrong := []uint32{uint32(x.most) + 1, uint32(x.most) + 2, uint32(x.most) | 1<<31, 1 << 31, 1<<31 - 1, 1<<32 - 1, 1<<32 - 5}
		if x.name == "Command" {
			wrong = append(wrong, 0)
		}
		for _, v := range wrong {
			b := laid(full(), some(9))
			binary.LittleEndian.PutUint32(b[x.at:], v)
			refuseHead(t, x.name+", the old seal", b[:256], api.ErrSeal)
			refuseOpen(t, x.name+", the old seal", b, api.ErrSeal)
			reseal(b)
			refuseHead(t, x.name, b[:256], api.ErrBytes)
			refuseOpen(t, x.name, b, api.ErrBytes)
		}
	}
}

// P4.2: a header whose seal is right, but whose noughts are none.
func TestSealedNoughts(t *testing.T) {
	for at := 108; at < 256; at++ {
		for _, v := range []byte{1, 0x80, 0xff} {
			b := laid(full(), some(9))
			b[at] = v
			reseal(b)
			refuseHead(t, "no nought", b[:256], api.ErrBytes)
			refuseOpen(t, "no nought", b, api.ErrBytes)
		}
	}
}

// P4.2: Head doesn't ask for the body: whatever stands as its seal. Open does, of an empty body too.
func TestBodysSeal(t *testing.T) {
	for _, count := range []int{0, 1, 1024} {
		for at := 16; at < 32; at++ {
			b := laid(full(), some(count))
			b[at] ^= 0x10
			refuseHead(t, "the old seal", b[:256], api.ErrSeal)
			reseal(b)
			h := full()
			h.Size = count
			if got, e := header.Head(b[:256]); e != api.OK || got != h {
				t.Errorf("Head, %d bytes, %d turned: %+v, %v", count, at, got, e)
			}
			refuseOpen(t, "another seal of the body", b, api.ErrSeal)
		}
	}
}

// P4.2: a Size that is sealed and may be, but is not how many bytes the body has.
func TestSealedSize(t *testing.T) {
	for _, size := range []uint32{0, 8, 10, 1024} {
		b := laid(full(), some(9))
		binary.LittleEndian.PutUint32(b[40:], size)
		reseal(b)
		if h, e := header.Head(b[:256]); e != api.OK || h.Size != int(size) {
			t.Errorf("Head, Size %d: %+v, %v", size, h, e)
		}
		refuseOpen(t, "another Size", b, api.ErrBytes)
	}
}

// P4.2: the order of the errors, with more than one thing wrong.
func TestOrderOfErrors(t *testing.T) {
	wrong := laid(full(), some(9))
	wrong[32] = 0
	refuseHead(t, "too short, not sealed, Command 0", wrong[:255], api.ErrBytes)
	refuseHead(t, "not sealed, Command 0", wrong[:256], api.ErrSeal)
	refuseOpen(t, "not sealed, Command 0, too few behind it", wrong[:260], api.ErrSeal)

	turned := laid(full(), some(9))
	turned[264] ^= 1
	refuseOpen(t, "the last byte turned, the first one lacking", turned[1:], api.ErrSeal)
	refuseOpen(t, "a byte of the body turned, one too many", append(bytes.Clone(turned), 1), api.ErrBytes)
	turned[256] ^= 1
	refuseOpen(t, "a byte of the body turned, the last one lacking", turned[:264], api.ErrBytes)
	refuseOpen(t, "two bytes of the body turned", turned, api.ErrSeal)

	reseal(wrong)
	wrong[256] ^= 1
	refuseOpen(t, "Command 0, the body turned", wrong, api.ErrBytes)
}

// P4.3: what is sealed is opened as it was; what is opened is sealed as the same bytes.
func TestThereAndBack(t *testing.T) {
	for _, m := range messages() {
		said := m
		said.H.Size = 77
		b := sealed(t, said)
		x, e := header.Open(b)
		if e != api.OK || !same(x, m) {
			t.Errorf("%+v, %v, want %+v", x, e, m)
		}
		if again := sealed(t, x); !bytes.Equal(again, b) {
			t.Errorf("%+v: sealed again: %x, was %x", m.H, again, b)
		}
		if h, e := header.Head(b[:256]); e != api.OK || h != m.H {
			t.Errorf("Head: %+v, %v", h, e)
		}
	}
}

// P4.3: each bit of a message's bytes, turned: in either seal, in the numbers, in the noughts, in the body.
func TestTurnedBits(t *testing.T) {
	for _, count := range []int{0, 1, 65} {
		b := sealed(t, api.Message{H: full(), Body: some(count)})
		for at := range b {
			for bit := range 8 {
				b[at] ^= 1 << bit
				refuseOpen(t, "a bit turned", b, api.ErrSeal)
				if at < 256 {
					refuseHead(t, "a bit turned", b[:256], api.ErrSeal)
				}
				b[at] ^= 1 << bit
			}
		}
	}
}

// P4.3: several bytes turned at once, by the same and by other turns.
func TestTurnedBytes(t *testing.T) {
	b := sealed(t, api.Message{H: full(), Body: some(200)})
	for at := range b {
		for _, other := range []int{0, 16, 31, 32, 107, 108, 255, 256, len(b) - 1} {
			if at == other {
				continue
			}
			turned := bytes.Clone(b)
			turned[at] ^= 0x41
			turned[other] ^= 0x41
			refuseOpen(t, "two bytes turned", turned, api.ErrSeal)
		}
	}
	swapped := bytes.Clone(b)
	copy(swapped, b[16:32])
	copy(swapped[16:], b[:16])
	refuseOpen(t, "the seals swapped", swapped, api.ErrSeal)
}

// P4.3: the body of one message behind the header of another one.
func TestOtherBody(t *testing.T) {
	a := sealed(t, api.Message{H: full(), Body: []byte("twelve bytes")})
	b := sealed(t, api.Message{H: full(), Body: []byte("another body")})
	refuseOpen(t, "another body", append(bytes.Clone(a[:256]), b[256:]...), api.ErrSeal)
}

// Rule 4: what is handed in stays as it was, its spare room is not looked at, and what is answered is new.
func TestOpenMemory(t *testing.T) {
	for _, count := range []int{0, 1, 500, 1024} {
		want := api.Message{H: full(), Body: some(count)}
		want.H.Size = count
		message := laid(full(), some(count))
		room := append(bytes.Clone(message), some(64)...)
		was := bytes.Clone(room)
		m, e := header.Open(room[:len(message)])
		if e != api.OK || !same(m, want) {
			t.Errorf("%d bytes: %+v, %v", count, m, e)
		}
		if h, e := header.Head(room[:256]); e != api.OK || h != want.H {
			t.Errorf("Head: %+v, %v", h, e)
		}
		spoil(m.Body)
		if !bytes.Equal(room, was) {
			t.Errorf("%d bytes: what was handed in has changed", count)
		}
		m, _ = header.Open(room[:len(message)])
		again, _ := header.Open(room[:len(message)])
		spoil(again.Body)
		spoil(room)
		if !same(m, want) {
			t.Errorf("%d bytes: an answer is shared or kept", count)
		}
		refuseHead(t, "bytes cut short, whole in the spare room", was[:255], api.ErrBytes)
	}
}

// P4.2, P4.3: whatever bytes there are, none panics, and what is opened is sealed as them.
func FuzzOpen(f *testing.F) {
	for _, m := range messages() {
		f.Add(laid(m.H, m.Body), false)
	}
	f.Add([]byte{}, true)
	f.Add(make([]byte, 256), true)
	f.Fuzz(func(t *testing.T, b []byte, again bool) {
		if again && len(b) >= 256 {
			// Seals that are right let the fuzzing come to what stands behind them.
			b = bytes.Clone(b)
			put(b[16:], b[256:])
			reseal(b)
		}
		m, e := header.Open(b)
		if e != api.OK {
			if !same(m, api.Message{}) {
				t.Fatalf("%+v beside %v", m, e)
			}
			return
		}
		if header.Check(m.H) != api.OK || m.H.Size != len(m.Body) {
			t.Fatalf("%+v was opened", m.H)
		}
		if !bytes.Equal(laid(m.H, m.Body), b) || !bytes.Equal(sealed(t, m), b) {
			t.Fatalf("%+v is not sealed as %x", m, b)
		}
	})
}
