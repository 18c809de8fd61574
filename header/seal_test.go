package header_test

import (
	"bytes"
	"math"
	"strconv"
	"testing"

	"exchequer/api"
	"exchequer/header"
)

// wants is what Check answers of a header with a field set to a number.
func wants(t *testing.T, x number, v int, want api.Errno) {
	t.Helper()
	h := least()
	*x.of(&h) = v
	if e := header.Check(h); e != want {
		t.Errorf("Check, %s %d: %v, want %v", x.name, v, e, want)
	}
	if x.name == "Size" {
		return
	}
	if b, e := header.Seal(api.Message{H: h}); e != want || (len(b) != 0) != (want == api.OK) {
		t.Errorf("Seal, %s %d: %d bytes, %v, want %v", x.name, v, len(b), e, want)
	}
}

// P4.1: each number at 0, at its greatest, and beyond, by little and by so much that its lowest 32 bits may be again.
func TestBounds(t *testing.T) {
	for _, x := range numbers() {
		zero := api.OK
		if x.name == "Command" {
			zero = api.ErrArg
		}
		wants(t, x, 0, zero)
		wants(t, x, 1, api.OK)
		wants(t, x, x.most-1, api.OK)
		wants(t, x, x.most, api.OK)
		for _, v := range []int{-1, -2, -x.most, math.MinInt32, math.MinInt, x.most + 1, x.most + 2, math.MaxInt32, math.MaxInt, math.MaxInt - 3} {
			wants(t, x, v, api.ErrArg)
		}
		if strconv.IntSize == 64 {
			one := int64(1)
			for _, shift := range []int{31, 32, 33, 62} {
				wants(t, x, int(one<<shift+1), api.ErrArg)
				wants(t, x, int(1-one<<shift), api.ErrArg)
			}
		}
	}
}

// P4.1: whatever Client and Time are, the header may be; one wrong field among the greatest is told.
func TestCheckOfAll(t *testing.T) {
	h := greatest()
	h.Size = 1024
	for _, x := range []api.Header{least(), full(), h, {Command: 1, Time: math.MaxUint64}, {Command: 31, Client: api.U128{Hi: math.MaxUint64}}} {
		if e := header.Check(x); e != api.OK {
			t.Errorf("Check(%+v): %v", x, e)
		}
	}
	for _, x := range numbers() {
		wrong := h
		*x.of(&wrong)++
		if e := header.Check(wrong); e != api.ErrArg {
			t.Errorf("%s one beyond: %v", x.name, e)
		}
	}
	if e := header.Check(api.Header{}); e != api.ErrArg {
		t.Errorf("the zero header: %v", e)
	}
}

// P4.1: the bytes of messages are those that the chapter's words lay.
func TestSealLays(t *testing.T) {
	for _, m := range messages() {
		if b := sealed(t, m); !bytes.Equal(b, laid(m.H, m.Body)) {
			t.Errorf("%+v:\n%x, want\n%x", m.H, b, laid(m.H, m.Body))
		}
	}
	for _, x := range numbers() {
		if x.name == "Size" || x.name == "Command" {
			continue
		}
		h := least()
		*x.of(&h) = x.most
		b := sealed(t, api.Message{H: h})
		if !bytes.Equal(b, laid(h, nil)) {
			t.Errorf("%s alone: %x", x.name, b)
		}
	}
}

// P4.1: a message's Size is that of its body, whatever its header says, even where such a header may not be.
func TestSealTakesBodysSize(t *testing.T) {
	for _, count := range []int{0, 1, 1024} {
		h := full()
		want := laid(h, some(count))
		for _, size := range []int{0, 1, count, count + 1, 1024, 1025, -1, math.MinInt, math.MaxInt} {
			h.Size = size
			if b := sealed(t, api.Message{H: h, Body: some(count)}); !bytes.Equal(b, want) {
				t.Errorf("a body of %d bytes, Size %d: %x", count, size, b)
			}
		}
	}
}

// P4.1: bodies of 1,024 and 1,025 bytes, and which error comes first.
func TestSealRefuses(t *testing.T) {
	if b := sealed(t, api.Message{H: least(), Body: some(1024)}); len(b) != 1280 {
		t.Errorf("%d bytes", len(b))
	}
	for _, count := range []int{1025, 1026, 1280, 1 << 17} {
		refuseSeal(t, "a long body", api.Message{H: least(), Body: some(count)}, api.ErrLong)
		refuseSeal(t, "a long body, Size 3", api.Message{H: api.Header{Command: 1, Size: 3}, Body: some(count)}, api.ErrLong)
		refuseSeal(t, "a long body of a header that may not be", api.Message{Body: some(count)}, api.ErrLong)
		refuseSeal(t, "a long body of another such", api.Message{H: api.Header{Command: 1, Op: -1}, Body: some(count)}, api.ErrLong)
	}
	refuseSeal(t, "Command 0", api.Message{}, api.ErrArg)
	refuseSeal(t, "Command 0 with a body", api.Message{Body: some(1024)}, api.ErrArg)
	refuseSeal(t, "Replica 7", api.Message{H: api.Header{Command: 1, Replica: 7}, Body: some(3)}, api.ErrArg)
}

// The chapter's examples.
func TestExamples(t *testing.T) {
	m := api.Message{H: api.Header{Command: 1}, Body: []byte("ab")}
	b := sealed(t, m)
	if len(b) != 258 || b[32] != 1 || b[40] != 2 {
		t.Errorf("%d bytes; %d; %d", len(b), b[32], b[40])
	}
	m.H.Size = 2
	if x, e := header.Open(b); e != api.OK || !same(x, m) {
		t.Errorf("Open: %+v, %v", x, e)
	}
	refuseOpen(t, "its first 257 bytes", b[:257], api.ErrBytes)
	for _, at := range []int{257, 50} {
		turned := bytes.Clone(b)
		turned[at] ^= 0xff
		refuseOpen(t, "a byte turned", turned, api.ErrSeal)
	}
	if h, e := header.Head(b[:256]); e != api.OK || h != m.H {
		t.Errorf("Head: %+v, %v", h, e)
	}
	refuseHead(t, "255 bytes", b[:255], api.ErrBytes)
	refuseSeal(t, "Command 0", api.Message{}, api.ErrArg)
	refuseSeal(t, "1,025 bytes", api.Message{H: least(), Body: make([]byte, 1025)}, api.ErrLong)
	if e := header.Check(api.Header{Command: 1, Replica: 7}); e != api.ErrArg {
		t.Errorf("Replica 7: %v", e)
	}
}

// Rule 4: what Seal is handed stays as it was, its spare room is not told, and what it answers is new.
func TestSealMemory(t *testing.T) {
	for _, count := range []int{0, 1, 500, 1024} {
		room := some(count + 100)
		was := bytes.Clone(room)
		m := api.Message{H: full(), Body: room[:count]}
		b := sealed(t, m)
		want := laid(full(), was[:count])
		if !bytes.Equal(b, want) {
			t.Errorf("%d bytes: the spare room was looked at", count)
		}
		spoil(b)
		if !bytes.Equal(room, was) || m.H != full() {
			t.Errorf("%d bytes: what was handed in has changed", count)
		}
		again := sealed(t, m)
		spoil(room)
		if !bytes.Equal(again, want) {
			t.Errorf("%d bytes: an answer is shared or kept", count)
		}
	}
}

// spoil turns all bytes of a slice, and those of its spare room.
func spoil(b []byte) {
	b = b[:cap(b)]
	for i := range b {
		b[i] ^= 0xa5
	}
}
