package freeset_test

import (
	"bytes"
	"fmt"
	"testing"

	"exchequer/api"
	"exchequer/freeset"
)

// refuseRead wants bytes to be no set's.
func refuseRead(t testing.TB, b []byte) {
	t.Helper()
	if s, e := freeset.Read(b); s != nil || e != api.ErrBytes {
		t.Errorf("Read of %d bytes, %v: %v, %v", len(b), b, s, e)
	}
}

// parsed tells how the blocks are that bytes tell of, by the chapter's words, and whether they are a set's.
func parsed(b []byte) (hows []int, is bool) {
	if len(b) < 2 {
		return nil, false
	}
	blocks := int(b[0]) + 256*int(b[1])
	room := (len(b) - 2) * 4
	if blocks < 1 || blocks > 512 || room < blocks || room > blocks+3 {
		return nil, false
	}
	for i := range room {
		how := int(b[2+i/4]) / []int{1, 4, 16, 64}[i%4] % 4
		if i >= blocks && how != 0 || how == 3 {
			return nil, false
		}
		if i < blocks {
			hows = append(hows, how)
		}
	}
	return hows, true
}

// wantRead wants Read to take just the bytes of a set.
func wantRead(t testing.TB, b []byte) {
	t.Helper()
	hows, is := parsed(b)
	if !is {
		refuseRead(t, b)
		return
	}
	s, e := freeset.Read(b)
	if s == nil || e != api.OK {
		t.Errorf("Read of %v: %v, %v", b, s, e)
		return
	}
	wantSet(t, "Read", s, hows)
	if !bytes.Equal(s.Bytes(), b) {
		t.Errorf("Read of %v: bytes %v", b, s.Bytes())
	}
}

// spoil turns all bytes of a slice, and those of its spare room.
func spoil(b []byte) {
	b = b[:cap(b)]
	for i := range b {
		b[i] ^= 0xa5
	}
}

// P9.1: a set's bytes, as numbers.
func TestBytes(t *testing.T) {
	for _, c := range []struct {
		hows []int
		want []byte
	}{
		{[]int{0}, []byte{1, 0, 0}},
		{[]int{1}, []byte{1, 0, 1}},
		{[]int{2}, []byte{1, 0, 2}},
		{[]int{1, 1, 1}, []byte{3, 0, 21}},
		{[]int{0, 0, 0, 1}, []byte{4, 0, 64}},
		{[]int{1, 2, 0, 2}, []byte{4, 0, 1 + 8 + 128}},
		{[]int{0, 0, 0, 0, 2}, []byte{5, 0, 0, 2}},
		{[]int{2, 2, 2, 2, 1}, []byte{5, 0, 170, 1}},
	} {
		s := read(t, c.hows)
		if b := s.Bytes(); !bytes.Equal(b, c.want) {
			t.Errorf("bytes of %v: %v, want %v", c.hows, b, c.want)
		}
	}
	for blocks, front := range map[int][2]byte{255: {255, 0}, 256: {0, 1}, 257: {1, 1}, 511: {255, 1}, 512: {0, 2}} {
		b := made(t, blocks).Bytes()
		if len(b) != 2+(blocks+3)/4 || [2]byte(b) != front || bytes.Count(b[2:], []byte{0}) != len(b)-2 {
			t.Errorf("bytes of %d free blocks: %v", blocks, b)
		}
	}
}

// P9.1, P9.5: the bytes of any set of up to six blocks, and of sets of all edges, are read as it was.
func TestBytesAreReadAsTheyWere(t *testing.T) {
	for blocks := 1; blocks <= 6; blocks++ {
		for _, hows := range every(blocks) {
			wantSet(t, "read", read(t, hows), hows)
			wantRead(t, laid(hows))
		}
	}
	for _, blocks := range sizes() {
		for _, hows := range kinds(blocks) {
			s := read(t, hows)
			again, e := freeset.Read(s.Bytes())
			want(t, "Read", e, api.OK)
			wantSet(t, "read", s, hows)
			wantSet(t, "read of what was read", again, hows)
		}
	}
}

// P9.1, P9.5: a set that came to be so by calls is read as it was, and so does it go on.
func TestWhatWasReadGoesOn(t *testing.T) {
	for _, blocks := range []int{65, 511, 512} {
		s := made(t, blocks)
		change(t, s)
		hows := all(blocks, 0)
		hows[1], hows[2], hows[64] = 1, 1, 2
		wantSet(t, "changed", s, hows)
		c, e := freeset.Read(s.Bytes())
		want(t, "Read", e, api.OK)
		for _, x := range []*freeset.Set{s, c} {
			wantSet(t, "changed", x, hows)
			wantAcquire(t, x, 1)
			wantAcquire(t, x, 4)
			want(t, "Take(65)", x.Take(65), api.ErrState)
			want(t, "Release(65)", x.Release(65), api.ErrState)
			if n := x.Settle(); n != 1 {
				t.Errorf("Settle: %d", n)
			}
			want(t, "Take(65)", x.Take(65), api.OK)
		}
	}
}

// P9.1: Read takes just the bytes of a set, of all that have up to two bytes, and of all of up to eight blocks.
func TestReadOfAllShortBytes(t *testing.T) {
	refuseRead(t, nil)
	refuseRead(t, []byte{})
	for x := range 256 {
		refuseRead(t, []byte{byte(x)})
		for y := range 256 {
			refuseRead(t, []byte{byte(x), byte(y)})
		}
		for blocks := range 10 {
			wantRead(t, []byte{byte(blocks), 0, byte(x)})
			wantRead(t, []byte{byte(blocks), 1, byte(x)})
		}
	}
	for blocks := 4; blocks <= 9; blocks++ {
		for x := range 1 << 16 {
			wantRead(t, []byte{byte(blocks), 0, byte(x), byte(x >> 8)})
		}
	}
}

// P9.1: a set's bytes are just as many as its blocks need, of each number of blocks; and no number but 1 to 512 is a set's.
func TestReadOfEachLength(t *testing.T) {
	for blocks := range 1100 {
		for _, more := range []int{-130, -2, -1, 0, 1, 2, 130} {
			if n := (blocks+3)/4 + more; n >= 0 {
				b := append([]byte{byte(blocks), byte(blocks >> 8)}, make([]byte, n)...)
				if _, is := parsed(b); is != (blocks >= 1 && blocks <= 512 && more == 0) {
					t.Fatal(blocks, more, is)
				}
				wantRead(t, b)
			}
		}
	}
	for _, n := range []int{0, 1, 128, 129, 130, 16384, 1 << 20} {
		refuseRead(t, append([]byte{255, 255}, make([]byte, n)...))
		refuseRead(t, append([]byte{0, 0}, make([]byte, n)...))
		refuseRead(t, append([]byte{1, 2}, make([]byte, n)...))
		refuseRead(t, append([]byte{0, 4}, make([]byte, n)...))
	}
}

// P9.1: the bits 3 are no block's, wherever they stand.
func TestReadRefusesThree(t *testing.T) {
	for _, blocks := range sizes() {
		for _, hows := range kinds(blocks) {
			for _, at := range []int{0, 1, 2, 3, 4, blocks / 2, blocks - 2, blocks - 1} {
				if at >= 0 && at < blocks {
					b := laid(hows)
					b[2+at/4] |= 3 << (at % 4 * 2)
					refuseRead(t, b)
				}
			}
		}
	}
	for at := range 512 {
		hows := all(512, 0)
		hows[at] = 3
		refuseRead(t, laid(hows))
	}
}

// P9.1: behind the last block's bits stand noughts alone.
func TestReadRefusesBitsBehindTheLast(t *testing.T) {
	for blocks := 1; blocks <= 512; blocks++ {
		for _, hows := range [][]int{all(blocks, 0), all(blocks, 1), all(blocks, 2)} {
			b := laid(hows)
			for bit := blocks % 4 * 2; bit > 0 && bit < 8; bit++ {
				wrong := bytes.Clone(b)
				wrong[len(wrong)-1] |= 1 << bit
				refuseRead(t, wrong)
			}
			wantRead(t, b)
		}
	}
}

// P9.1: a clone is the same, and a set of its own: what is done to either is not seen at the other one.
func TestClone(t *testing.T) {
	for _, blocks := range sizes() {
		for _, hows := range kinds(blocks) {
			s := read(t, hows)
			c := s.Clone()
			if c == nil || c == s {
				t.Fatal("a clone is none, or the set itself")
			}
			wantSet(t, "a clone", c, hows)
			turnAll(c, blocks)
			wantSet(t, "what was cloned", s, hows)
			c = s.Clone()
			turnAll(s, blocks)
			wantSet(t, "a clone of what was changed since", c, hows)
			again := c.Clone()
			c.Settle()
			wantSet(t, "a clone of a clone", again, hows)
		}
	}
}

// turnAll changes how each block is.
func turnAll(s *freeset.Set, blocks int) {
	before := s.Clone()
	s.Settle()
	for block := 1; block <= blocks; block++ {
		if before.Is(block) != 2 && s.Take(block) != api.OK {
			s.Release(block)
		}
	}
}

// A set that was made, one that was read and a clone are alike.
func TestWhoeverMadeIt(t *testing.T) {
	cloned := made(t, 65).Clone()
	for i, s := range []*freeset.Set{made(t, 65), read(t, all(65, 0)), cloned} {
		change(t, s)
		hows := all(65, 0)
		hows[1], hows[2], hows[64] = 1, 1, 2
		wantSet(t, fmt.Sprint("set ", i), s, hows)
	}
}

// Rule 4: what Read is handed stays as it was, its spare room is neither looked at nor written, and the set does not hang on it.
func TestReadMemory(t *testing.T) {
	for _, blocks := range sizes() {
		for _, hows := range kinds(blocks) {
			l := laid(hows)
			for _, filler := range []byte{0, 1, 255} {
				room := append(bytes.Clone(l), bytes.Repeat([]byte{filler}, 40)...)
				was := bytes.Clone(room)
				s, e := freeset.Read(room[:len(l)])
				want(t, "Read", e, api.OK)
				wantSet(t, "with spare room", s, hows)
				c := s.Clone()
				turnAll(s, blocks)
				s.Bytes()
				if !bytes.Equal(room, was) {
					t.Errorf("%v: what was handed in has changed", hows)
				}
				spoil(room)
				wantSet(t, "the bytes of which it was read were turned", c, hows)
				refuseRead(t, was[:len(l)-1])
				refuseRead(t, was[:len(l)+1])
			}
		}
	}
	wrong := []byte{3, 0, 64, 0, 0, 7}
	was := bytes.Clone(wrong)
	refuseRead(t, wrong[:3])
	if !bytes.Equal(wrong, was) {
		t.Error("what was refused has changed")
	}
}

// Rule 4: what Bytes answers is new memory, its spare room too.
func TestBytesMemory(t *testing.T) {
	for _, blocks := range sizes() {
		for _, hows := range kinds(blocks) {
			s := read(t, hows)
			b, again := s.Bytes(), s.Bytes()
			spoil(b)
			wantSet(t, "an answer was turned", s, hows)
			if !bytes.Equal(again, laid(hows)) {
				t.Errorf("%v: two answers share memory", hows)
			}
			turnAll(s, blocks)
			if !bytes.Equal(again, laid(hows)) {
				t.Errorf("%v: an answer hangs on the set", hows)
			}
		}
	}
}
