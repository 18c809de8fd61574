package slot_test

import (
	"bytes"
	"crypto/sha256"
	"encoding/binary"
	"fmt"
	"math"
	"testing"

	"exchequer/api"
	"exchequer/slot"
)

// most is the greatest that an op or a view may be.
const most = 1 << 30

// put lays a seal, the library's own, of what it is handed.
func put(room, of []byte) {
	whole := sha256.Sum256(of)
	copy(room[:16], whole[:16])
}

// reseal lays a header's seal anew, so that what was changed behind it is sealed.
func reseal(b []byte) []byte {
	put(b, b[16:256])
	return b
}

// laid is a message's bytes, laid by the words of chapter 4; whatever its header says, it need not be one that may be.
func laid(m api.Message) []byte {
	h := m.H
	b := make([]byte, 256, 256+len(m.Body))
	put(b[16:], m.Body)
	at := 32
	for _, x := range []int{h.Command, h.Replica, len(m.Body), h.View, h.LogView, h.Op, h.Parent, h.Commit, h.Mark} {
		binary.LittleEndian.PutUint32(b[at:], uint32(x))
		at += 4
	}
	binary.LittleEndian.PutUint64(b[68:], h.Client.Lo)
	binary.LittleEndian.PutUint64(b[76:], h.Client.Hi)
	binary.LittleEndian.PutUint32(b[84:], uint32(h.Request))
	binary.LittleEndian.PutUint32(b[88:], uint32(h.Operation))
	binary.LittleEndian.PutUint64(b[92:], h.Time)
	binary.LittleEndian.PutUint32(b[100:], uint32(h.Address))
	binary.LittleEndian.PutUint32(b[104:], uint32(h.Stamp))
	return append(reseal(b), m.Body...)
}

// image is a slot's bytes of a prepare, by the chapter's words.
func image(m api.Message) []byte {
	b := make([]byte, 1280)
	copy(b, laid(m))
	return b
}

// none is what says that a slot is unwritten, by the chapter's words; it need not be a slot's number.
func none(n int) []byte {
	return laid(api.Message{H: api.Header{Command: 1, Address: n}})
}

// some is a body of bytes of which no two that stand near are the same.
func some(count int) []byte {
	b := make([]byte, count)
	for i := range b {
		b[i] = byte(i*i*5 + i*29 + count + 1)
	}
	return b
}

// prepare is one that says no more than it must, with a body of so many bytes.
func prepare(op, view, count int) api.Message {
	return api.Message{H: api.Header{Command: 2, Op: op, View: view, Size: count}, Body: some(count)}
}

// full is a prepare of which each field is set, no two alike, and no two bytes of one.
func full(op, count int) api.Message {
	return api.Message{Body: some(count), H: api.Header{
		Command: 2, Replica: 5, Size: count,
		View: 0x31323334, LogView: 0x21222324,
		Op: op, Parent: 0x01020304, Commit: 0x35363738, Mark: 0x25262728,
		Client:  api.U128{Hi: 0xf0e1d2c3b4a59687, Lo: 0x78695a4b3c2d1e0f},
		Request: 0x15161718, Operation: 0x05060708,
		Time:    0x8899aabbccddeeff,
		Address: 0x393a3b3c, Stamp: 0x292a2b2c,
	}}
}

// counts are how many bytes a body may have: none, one, about whole sectors, and the most.
func counts() []int { return []int{0, 1, 2, 255, 256, 257, 767, 768, 769, 1023, 1024} }

// prepares are some of all slots, with bodies of all those counts, of the least op and view, the greatest and others.
func prepares() []api.Message {
	var l []api.Message
	for _, op := range []int{1, 2, 15, 16, 17, 0x11121314, most - 1, most} {
		for _, count := range counts() {
			l = append(l, prepare(op, 0, count), prepare(op, most, count), full(op, count))
		}
	}
	for op := range 40 {
		l = append(l, prepare(op+1, op%3, op))
	}
	return l
}

// same tells whether two messages are the same; lists that are nil or empty are.
func same(a, b api.Message) bool { return a.H == b.H && bytes.Equal(a.Body, b.Body) }

// wantBytes wants Bytes to tell the bytes of a prepare that may be.
func wantBytes(t *testing.T, m api.Message) {
	t.Helper()
	if b, e := slot.Bytes(m); e != api.OK || !bytes.Equal(b, image(m)) {
		t.Errorf("Bytes(%+v): %x, %v, want %x", m.H, b, e, image(m))
	}
}

// refuseBytes wants Bytes to tell an error, and nothing beside it.
func refuseBytes(t *testing.T, what string, m api.Message, want api.Errno) {
	t.Helper()
	if b, e := slot.Bytes(m); e != want || len(b) != 0 {
		t.Errorf("Bytes, %s: %d bytes, %v, want %v", what, len(b), e, want)
	}
}

// P7.1: the slot of an op, from the least number to the greatest.
func TestOf(t *testing.T) {
	for op, want := range map[int]int{
		-1: 0, 0: 0, 1: 1, 14: 14, 15: 15, 16: 0, 17: 1, 31: 15, 32: 0, 33: 1,
		most - 1: 15, most: 0, most + 1: 1, math.MaxInt - 1: 14, math.MaxInt: 15,
		-2: 0, -15: 0, -16: 0, -17: 0, -31: 0, -most: 0, math.MinInt + 1: 0, math.MinInt: 0,
	} {
		if got := slot.Of(op); got != want {
			t.Errorf("Of(%d): %d, want %d", op, got, want)
		}
	}
	want := 0
	for op := range 200 {
		if got := slot.Of(op); got != want {
			t.Errorf("Of(%d): %d, want %d", op, got, want)
		}
		want++
		if want == 16 {
			want = 0
		}
	}
}

// P7.1: a slot's bytes of prepares: the message's own, and noughts, 1,280 in all.
func TestBytes(t *testing.T) {
	for _, m := range prepares() {
		wantBytes(t, m)
	}
	b, e := slot.Bytes(prepare(most, most, 1024))
	if e != api.OK || len(b) != 1280 || b[1279] != some(1024)[1023] {
		t.Errorf("the longest: %d bytes, %v", len(b), e)
	}
}

// P7.1: the Size that a prepare says does not count, even where such a header may not be.
func TestBytesTakesBodysSize(t *testing.T) {
	for _, count := range []int{0, 1, 1024} {
		for _, size := range []int{-1, 0, 1, count + 1, 1024, 1025, math.MinInt, math.MaxInt} {
			m := full(33, count)
			m.H.Size = size
			wantBytes(t, m)
		}
	}
}

// P7.1: a message with another Command, or of op 0, is no prepare; nor is one that may not be.
func TestBytesRefuses(t *testing.T) {
	for command := -1; command <= 33; command++ {
		for _, count := range []int{0, 9, 1024} {
			m := full(17, count)
			m.H.Command = command
			if command == 2 {
				wantBytes(t, m)
				continue
			}
			refuseBytes(t, fmt.Sprint("Command ", command), m, api.ErrArg)
		}
	}
	for _, op := range []int{math.MinInt, -17, -16, -1, 0, most + 1, most + 16, 1 << 32, 1<<32 + 1, math.MaxInt} {
		refuseBytes(t, fmt.Sprint("Op ", op), prepare(op, 0, 3), api.ErrArg)
	}
	for _, view := range []int{math.MinInt, -1, most + 1, 1 << 32, math.MaxInt} {
		refuseBytes(t, fmt.Sprint("View ", view), prepare(17, view, 3), api.ErrArg)
	}
	m := full(17, 3)
	m.H.Replica = 7
	refuseBytes(t, "Replica 7", m, api.ErrArg)
	refuseBytes(t, "the zero message", api.Message{}, api.ErrArg)
	refuseBytes(t, "what says that a slot is unwritten", api.Message{H: api.Header{Command: 1, Address: 3}}, api.ErrArg)
}

// P7.1: a body that is too long is told ahead of all that ErrArg tells.
func TestBytesOrderOfErrors(t *testing.T) {
	for _, count := range []int{1025, 1026, 1280, 1 << 17} {
		refuseBytes(t, "a long body", prepare(17, 2, count), api.ErrLong)
		refuseBytes(t, "a long body of op 0", prepare(0, 2, count), api.ErrLong)
		refuseBytes(t, "a long body of a view that may not be", prepare(1, -1, count), api.ErrLong)
		refuseBytes(t, "a long body of another Command", api.Message{H: api.Header{Command: 3, Op: 1}, Body: some(count)}, api.ErrLong)
		refuseBytes(t, "a long body, and else nothing", api.Message{Body: some(count)}, api.ErrLong)
		m := prepare(17, 2, count)
		m.H.Size = 3
		refuseBytes(t, "a long body, Size 3", m, api.ErrLong)
	}
}

// P7.1: what says that a slot is unwritten, and numbers that are no slot's.
func TestUnwritten(t *testing.T) {
	for n := range 16 {
		if b, e := slot.Unwritten(n); e != api.OK || len(b) != 256 || !bytes.Equal(b, none(n)) {
			t.Errorf("Unwritten(%d): %x, %v, want %x", n, b, e, none(n))
		}
	}
	for _, n := range []int{math.MinInt, -17, -16, -1, 16, 17, 32, 256, most, 1 << 32, math.MaxInt} {
		if b, e := slot.Unwritten(n); e != api.ErrRange || len(b) != 0 {
			t.Errorf("Unwritten(%d): %d bytes, %v, want %v", n, len(b), e, api.ErrRange)
		}
	}
}

// spoil turns all bytes of a slice, and those of its spare room.
func spoil(b []byte) {
	b = b[:cap(b)]
	for i := range b {
		b[i] ^= 0xa5
	}
}

// Rule 4: what Bytes is handed stays as it was, its spare room is not told, and what it answers is new; so is what Unwritten answers.
func TestBytesMemory(t *testing.T) {
	for _, count := range counts() {
		room := some(count + 100)
		was := bytes.Clone(room)
		m := full(17, 0)
		m.Body = room[:count]
		want := image(api.Message{H: m.H, Body: was[:count]})
		b, e := slot.Bytes(m)
		again, f := slot.Bytes(m)
		if e != api.OK || f != api.OK || !bytes.Equal(b, want) {
			t.Errorf("%d bytes: %v, %v, or the spare room was looked at", count, e, f)
		}
		spoil(b)
		if !bytes.Equal(room, was) || m.H != full(17, 0).H {
			t.Errorf("%d bytes: what was handed in has changed", count)
		}
		spoil(room)
		if !bytes.Equal(again, want) {
			t.Errorf("%d bytes: an answer is shared or kept", count)
		}
	}
	for n := range 16 {
		b, _ := slot.Unwritten(n)
		again, _ := slot.Unwritten(n)
		spoil(b)
		if later, _ := slot.Unwritten(n); !bytes.Equal(again, none(n)) || !bytes.Equal(later, none(n)) {
			t.Errorf("Unwritten(%d): an answer is shared or kept", n)
		}
	}
}
