package journal_test

import (
	"bytes"
	"fmt"
	"math"
	"testing"

	"exchequer/api"
	"exchequer/disk"
	"exchequer/journal"
)

// ops are those that the chapter's edges name, and some beyond.
func ops() []int {
	return []int{math.MinInt, -most, -17, -16, -15, -1, 0, 1, 14, 15, 16, 17, 31, 32, 33, 47, most - 16, most - 1, most, most + 1, most + 16, math.MaxInt - 15, math.MaxInt}
}

// slotOf is the slot of an op, by the words of chapter 7.
func slotOf(op int) int {
	if op < 0 {
		return 0
	}
	return op % 16
}

// wantOf wants Get of an op to tell what a slot that has a piece must tell.
func wantOf(t *testing.T, j *journal.Journal, op int, p piece) {
	t.Helper()
	switch {
	case op < 1 || p.s.Op != op:
		refuseGet(t, p.name, j, op, api.ErrMissing)
	case p.s.State == api.Faulty:
		refuseGet(t, p.name, j, op, api.ErrFaulty)
	default:
		wantGet(t, p.name, j, p.m)
	}
}

// P8.3: Get of slots of all kinds, of their own op and of others; the disk and what the journal knows (Mend, too) stay as they were.
func TestGet(t *testing.T) {
	for _, ring := range rings() {
		d := having(t, ring)
		j := opened(t, d)
		was := look(t, d)
		fuse(t, d, 0)
		for n, p := range ring {
			wantOf(t, j, p.s.Op, p)
			for _, op := range []int{p.s.Op - 1, p.s.Op + 1, p.s.Op - 16, p.s.Op + 16} {
				wantOf(t, j, op, ring[slotOf(op)])
			}
			if p.s.Op > 0 && slotOf(p.s.Op) != n {
				t.Fatalf("%s: the op %d is not of slot %d", p.name, p.s.Op, n)
			}
		}
		for _, op := range ops() {
			wantOf(t, j, op, ring[slotOf(op)])
		}
		wantSlots(t, "Get", j, stateOf(ring))
		wantSame(t, "Get", look(t, d), was)
	}
}

// P8.3: the slots 0 and 15, and the ops about them.
func TestGetAtTheEdges(t *testing.T) {
	j := opened(t, formatted(t))
	for _, m := range []api.Message{prepare(1, 0, 1), prepare(15, 1, 0), prepare(16, 0, 1024), prepare(most-1, most, 2), prepare(most, 0, 3)} {
		ok(t, "Put", j.Put(m))
		for _, op := range ops() {
			if op == m.H.Op {
				wantGet(t, "its own op", j, m)
			} else if slotOf(op) == slotOf(m.H.Op) {
				refuseGet(t, "another op of its slot", j, op, api.ErrMissing)
			}
		}
	}
}

// P8.3: a disk that is out is told ahead of whatever the slot is, and nothing becomes known by that.
func TestGetOfADiskThatIsOut(t *testing.T) {
	for _, ring := range rings() {
		d := having(t, ring)
		j := opened(t, d)
		for n := range 16 {
			ok(t, "Turn", d.Turn(prepareAt(n), 40, 1))
		}
		blow(t, d)
		for _, p := range ring {
			refuseGet(t, "out, "+p.name, j, p.s.Op, api.ErrBroken)
		}
		for _, op := range ops() {
			refuseGet(t, "out", j, op, api.ErrBroken)
		}
		wantSlots(t, "out", j, stateOf(ring))
	}
}

// found wants a slot that was Have, with Mend or without, to be Faulty of its op and view by a Get, and to stay so until something is put there.
func found(t *testing.T, what string, d *disk.Disk, j *journal.Journal, ring []piece, n int) {
	t.Helper()
	p, known := ring[n], stateOf(ring)
	wantSlots(t, what+", ahead", j, known)
	was := look(t, d)
	known[n] = faulty(p.s.Op, p.s.View)
	for range 2 {
		refuseGet(t, what, j, p.s.Op, api.ErrFaulty)
		wantSlots(t, what, j, known)
		wantSame(t, what, look(t, d), was)
	}
	ok(t, "Write", d.Write(prepareAt(n), p.prepare))
	refuseGet(t, what+", and as it was again", j, p.s.Op, api.ErrFaulty)
	wantSlots(t, what+", and as it was again", j, known)
	ok(t, "Put", j.Put(p.m))
	known[n] = have(p.s.Op, p.s.View)
	wantGet(t, what+", and put again", j, p.m)
	wantSlots(t, what+", and put again", j, known)
}

// P8.3: a slot that is Have, with Mend or without, of which the disk has something else now: bytes that are turned, noughts, a prepare of another op, of another view, of another slot.
func TestGetOfWhatIsThereNoMore(t *testing.T) {
	for _, ring := range rings() {
		for n, p := range ring {
			if p.s.State != api.Have {
				continue
			}
			turned := bytes.Clone(p.prepare)
			turned[255+len(p.m.Body)] ^= 0x80
			others := map[string][]byte{
				"turned": turned, "noughts": zeros(1280), "unwritten": append(none(n), zeros(1024)...),
				"of another op":   image(prepare(p.s.Op+16, p.s.View, 4)),
				"of another view": image(prepare(p.s.Op, (p.s.View+1)%most, 4)),
				"of another slot": image(prepare(p.s.Op+1, p.s.View, 4)),
			}
			if p.s.Op > 16 {
				others["of an older op"] = image(prepare(p.s.Op-16, p.s.View, 4))
			}
			for what, b := range others {
				d := having(t, ring)
				j := opened(t, d)
				ok(t, "Write", d.Write(prepareAt(n), b))
				found(t, p.name+", "+what, d, j, ring, n)
			}
		}
	}
}

// P8.3: another prepare of that op and that view is told as it is; bytes behind the prepare, and the header, are not looked at.
func TestGetLooksAtThePrepareAlone(t *testing.T) {
	for _, ring := range rings() {
		d := having(t, ring)
		j := opened(t, d)
		for n, p := range ring {
			if p.s.State != api.Have {
				continue
			}
			ok(t, "Write", d.Write(headAt(n), some(256)))
			wantGet(t, p.name+", its header gone", j, p.m)
			b := bytes.Clone(p.prepare)
			copy(b[256+len(p.m.Body):], some(1280))
			ok(t, "Write", d.Write(prepareAt(n), b))
			wantGet(t, p.name+", other bytes behind it", j, p.m)
			other := prepare(p.s.Op, p.s.View, 77)
			ok(t, "Write", d.Write(prepareAt(n), image(other)))
			wantGet(t, p.name+", another one of its op and view", j, other)
		}
		wantSlots(t, "Get", j, stateOf(ring))
	}
}

// Rule 4: what Get tells is new memory, each time, its spare room too.
func TestGetMemory(t *testing.T) {
	for _, count := range []int{0, 1, 100, 256, 1023, 1024} {
		j := opened(t, formatted(t))
		m := full(most, count)
		ok(t, "Put", j.Put(m))
		got, e := j.Get(most)
		again, f := j.Get(most)
		ok(t, "Get", e)
		ok(t, "Get", f)
		for _, b := range got.Body[len(got.Body):cap(got.Body)] {
			if b != 0 {
				t.Fatalf("%d bytes: something stands in the spare room", count)
			}
		}
		spoil(got.Body)
		if !same(again, m) {
			t.Errorf("%d bytes: two answers share memory", count)
		}
		wantGet(t, fmt.Sprint("an answer of ", count, " bytes was spoilt"), j, m)
	}
}
