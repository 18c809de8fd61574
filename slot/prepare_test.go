package slot_test

import (
	"bytes"
	"encoding/binary"
	"fmt"
	"math"
	"testing"

	"exchequer/api"
	"exchequer/slot"
)

// wantPrepare wants Prepare to tell a prepare.
func wantPrepare(t *testing.T, what string, b []byte, n int, want api.Message) {
	t.Helper()
	if m, ok := slot.Prepare(b, n); !ok || !same(m, want) {
		t.Errorf("Prepare, %s, %d: %+v, %v, want %+v", what, n, m, ok, want)
	}
}

// refusePrepare wants Prepare to tell that there is none, with a zero message beside it.
func refusePrepare(t *testing.T, what string, b []byte, n int) {
	t.Helper()
	if m, ok := slot.Prepare(b, n); ok || !same(m, api.Message{}) {
		t.Errorf("Prepare, %s, %d: %+v, %v, want none", what, n, m, ok)
	}
}

// others are numbers that are no slot's.
func others() []int {
	return []int{math.MinInt, -32, -17, -16, -15, -1, 16, 17, 31, 32, 33, most, 1 << 32, 1<<32 + 1, math.MaxInt}
}

// P7.2: prepares, of their own slot alone; of no slot's number there is none.
func TestPrepare(t *testing.T) {
	for _, m := range prepares() {
		b := image(m)
		for n := range 16 {
			if n == m.H.Op%16 {
				wantPrepare(t, "its slot", b, n, m)
			} else {
				refusePrepare(t, "another slot", b, n)
			}
		}
	}
	for _, n := range others() {
		for _, op := range []int{1, 15, 16, 17, 31, 32, 33, most} {
			refusePrepare(t, "no slot", image(prepare(op, 1, 4)), n)
		}
	}
}

// P7.2: a prepare has no more bytes than its Size says; whatever stands behind them, and how much, does not count.
func TestPrepareAndBytesBehind(t *testing.T) {
	for _, count := range counts() {
		m := full(17, count)
		b := laid(m)
		wantPrepare(t, "nothing behind it", b, 1, m)
		for _, more := range []int{1, 2, 256, 1024 - count, 1025 - count, 5000} {
			for _, with := range []byte{0, 1, 0xff} {
				wantPrepare(t, "something behind it", append(bytes.Clone(b), bytes.Repeat([]byte{with}, more)...), 1, m)
			}
		}
		wantPrepare(t, "another prepare behind it", append(bytes.Clone(b), laid(full(33, 7))...), 1, m)
		wantPrepare(t, "itself behind it", append(bytes.Clone(b), b...), 1, m)
	}
}

// P7.2: bytes that are fewer than a header has, or than the prepare's Size says; spare room does not count.
func TestPrepareOfFewerBytes(t *testing.T) {
	refusePrepare(t, "nil", nil, 1)
	refusePrepare(t, "no bytes", []byte{}, 0)
	for _, count := range counts() {
		b := laid(full(17, count))
		for short := range len(b) {
			refusePrepare(t, fmt.Sprintf("%d bytes of %d", short, len(b)), b[:short], 1)
		}
	}
	for _, count := range []int{0, 1, 255, 256, 257, 1279, 1280, 1281, 4000} {
		for n := range 16 {
			refusePrepare(t, "noughts", make([]byte, count), n)
		}
	}
}

// P7.2: a prepare that stands not at the front is none.
func TestPrepareElsewhere(t *testing.T) {
	b := image(full(17, 9))
	for _, with := range []byte{0, 1, 2} {
		refusePrepare(t, "a byte ahead of it", append([]byte{with}, b...), 1)
	}
	refusePrepare(t, "its first byte lacking", b[1:], 1)
	refusePrepare(t, "a sector ahead of it", append(make([]byte, 256), b...), 1)
	refusePrepare(t, "another slot's ahead of it", append(laid(full(18, 9)), b...), 1)
}

// P7.2: messages that are sealed, but are no prepares of the slot.
func TestPrepareOfOtherMessages(t *testing.T) {
	for command := range 34 {
		m := full(17, 9)
		m.H.Command = command
		if command == 2 {
			wantPrepare(t, "the one Command", image(m), 1, m)
			continue
		}
		refusePrepare(t, fmt.Sprint("Command ", command), image(m), 1)
	}
	for n := range 16 {
		refusePrepare(t, "Op 0", image(prepare(0, 3, 9)), n)
		refusePrepare(t, "what says that it is unwritten", none(n), n)
		refusePrepare(t, "an Op beyond the greatest", image(prepare(most+16+n, 3, 9)), n)
		refusePrepare(t, "an Op below 0", image(prepare(-16+n, 3, 9)), n)
	}
	refusePrepare(t, "a view beyond the greatest", image(prepare(17, most+1, 9)), 1)
	m := full(17, 9)
	m.H.Replica = 7
	refusePrepare(t, "Replica 7", image(m), 1)
}

// P7.2: prepares of which not all is right, though their headers are sealed: their Size, their body's seal, their noughts.
func TestPrepareSealedWrongly(t *testing.T) {
	for _, size := range []uint32{0, 8, 10, 1023, 1024, 1025, 1 << 31, 1<<32 - 1} {
		b := image(full(17, 9))
		binary.LittleEndian.PutUint32(b[40:], size)
		refusePrepare(t, fmt.Sprint("Size ", size), reseal(b), 1)
	}
	for _, count := range []int{0, 1, 1024} {
		for at := 16; at < 32; at++ {
			b := image(full(17, count))
			b[at] ^= 0x40
			refusePrepare(t, "another seal of the body", reseal(b), 1)
		}
	}
	for at := 108; at < 256; at++ {
		b := image(full(17, 9))
		b[at] = 1
		refusePrepare(t, "no nought in the header", reseal(b), 1)
	}
}

// P7.1, P7.2: what Bytes tells, Prepare tells again, and the same bytes are told of that.
func TestThereAndBack(t *testing.T) {
	for _, m := range prepares() {
		b, e := slot.Bytes(m)
		if e != api.OK {
			t.Fatalf("Bytes(%+v): %v", m.H, e)
		}
		wantPrepare(t, "there and back", b, slot.Of(m.H.Op), m)
		got, _ := slot.Prepare(b, slot.Of(m.H.Op))
		if again, e := slot.Bytes(got); e != api.OK || !bytes.Equal(again, b) {
			t.Errorf("%+v: %x, %v, was %x", m.H, again, e, b)
		}
	}
}

// Rule 4: what Prepare is handed stays as it was, and its spare room is not looked at; what it answers is new memory, its spare room too.
func TestPrepareMemory(t *testing.T) {
	for _, count := range counts() {
		want := full(17, count)
		room := append(laid(want), some(300)...)
		was := bytes.Clone(room)
		for _, length := range []int{256 + count, 256 + count + 50} {
			m, ok := slot.Prepare(room[:length], 1)
			again, _ := slot.Prepare(room[:length], 1)
			if !ok || !same(m, want) || !bytes.Equal(room, was) {
				t.Fatalf("%d bytes: %+v, %v, or what was handed in has changed", count, m.H, ok)
			}
			spoil(m.Body)
			if !bytes.Equal(room, was) {
				t.Fatalf("%d bytes: the answer is no new memory", count)
			}
			spoil(room)
			if !same(again, want) {
				t.Errorf("%d bytes: an answer is shared or kept", count)
			}
			spoil(room)
		}
	}
}
