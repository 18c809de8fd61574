package journal_test

import (
	"fmt"
	"math/rand"
	"testing"

	"exchequer/api"
	"exchequer/disk"
)

// wantTurned wants what a journal tells of a prepare, ahead of and behind opening anew, when bytes of its header, of its prepare or of both were turned.
func wantTurned(t testing.TB, what string, d *disk.Disk, m api.Message, inHead, inPrepare bool) {
	t.Helper()
	after := have(m.H.Op, m.H.View)
	switch {
	case inHead && inPrepare:
		after = unknown
	case inPrepare:
		after = faulty(m.H.Op, m.H.View)
	case inHead:
		after = mend(m.H.Op, m.H.View)
	}
	j := opened(t, d)
	if s := j.Slots()[m.H.Op%16]; s != after {
		t.Fatalf("%s: %v, want %v", what, s, after)
	}
	switch {
	case inHead && inPrepare:
		refuseGet(t, what, j, m.H.Op, api.ErrMissing)
	case inPrepare:
		refuseGet(t, what, j, m.H.Op, api.ErrFaulty)
	default:
		wantGet(t, what, j, m)
	}
}

// P8.6: each byte of a slot's header and of its prepare, turned: a journal that was opened ahead tells the prepare that was put, or none; so does one that is opened anew. Bytes behind the prepare do not count.
func TestTurnedBytes(t *testing.T) {
	for _, m := range []api.Message{full(16, 0), prepare(33, 2, 1), full(most-1, 300), prepare(1, 0, 1024)} {
		n := m.H.Op % 16
		d := formatted(t)
		ok(t, "Put", opened(t, d).Put(m))
		for at := range 256 + 1280 {
			sector, mask := headAt(n), byte(1)<<(at%8)
			if at >= 256 {
				sector = prepareAt(n) + at/256 - 1
			}
			counts := at >= 256 && at < 512+len(m.Body)
			what := fmt.Sprintf("op %d, a byte at %d", m.H.Op, at)
			j := opened(t, d)
			ok(t, "Turn", d.Turn(sector, at%256, mask))
			if counts {
				refuseGet(t, what, j, m.H.Op, api.ErrFaulty)
			} else {
				wantGet(t, what, j, m)
			}
			wantTurned(t, what, d, m, at < 256, counts)
			ok(t, "Turn", d.Turn(sector, at%256, mask))
		}
		wantTurned(t, "turned back", d, m, false, false)
	}
}

// P8.6: a byte of the header and one of the prepare, turned; what is mended then is not another one either.
func TestTurnedInBoth(t *testing.T) {
	m := prepare(20, 3, 600)
	for at := range 256 {
		d := formatted(t)
		j := opened(t, d)
		ok(t, "Put", j.Put(m))
		ok(t, "Turn", d.Turn(headAt(4), at, 0x10))
		mending := opened(t, d)
		ok(t, "Turn", d.Turn(prepareAt(4)+at%3, at, 0x20))
		wantTurned(t, "both", d, m, true, true)
		refuseGet(t, "both", j, 20, api.ErrFaulty)
		ok(t, "Mend", mending.Mend())
		refuseGet(t, "both, mended", mending, 20, api.ErrFaulty)
		if got, e := opened(t, d).Get(20); e == api.OK || !same(got, api.Message{}) {
			t.Fatalf("a byte at %d, mended: %+v, %v", at, got.H, e)
		}
		ok(t, "Put", j.Put(m))
		wantTurned(t, "put again", d, m, false, false)
	}
}

// P8.6: many bytes turned, all over the rings, of a ring that is full.
func TestManyTurned(t *testing.T) {
	chance := rand.New(rand.NewSource(8))
	d := formatted(t)
	j := opened(t, d)
	var l []api.Message
	for op := 9; op < 25; op++ {
		m := prepare(op, op%5, op*61%1025)
		ok(t, "Put", j.Put(m))
		l = append(l, m)
	}
	for range 300 {
		c := d.Clone()
		ahead := opened(t, c)
		was := look(t, c).now
		for range 1 + chance.Intn(60) {
			ok(t, "Turn", c.Turn(8+chance.Intn(96), chance.Intn(256), byte(1+chance.Intn(255))))
		}
		is := look(t, c).now
		differs := func(sector, count int) bool {
			return string(was[sector*256:][:count]) != string(is[sector*256:][:count])
		}
		for _, m := range l {
			n := m.H.Op % 16
			inHead, inPrepare := differs(headAt(n), 256), differs(prepareAt(n), 256+len(m.Body))
			wantTurned(t, "many turned", c, m, inHead, inPrepare)
			if inPrepare {
				refuseGet(t, "many turned, opened ahead", ahead, m.H.Op, api.ErrFaulty)
			} else {
				wantGet(t, "many turned, opened ahead", ahead, m)
			}
		}
	}
}

// P8.6: what is turned so that the seals are right again is told as it is, if it is of that op and view.
func TestTurnedAndWholeAgain(t *testing.T) {
	m, other := prepare(20, 3, 600), prepare(20, 3, 600)
	other.H.Commit = 4
	spoil(other.Body)
	d := formatted(t)
	j := opened(t, d)
	ok(t, "Put", j.Put(m))
	was, is := image(m), image(other)
	for at := range was {
		ok(t, "Turn", d.Turn(prepareAt(4)+at/256, at%256, was[at]^is[at]))
	}
	wantGet(t, "whole again", j, other)
	refuseGet(t, "whole again, beside another header", opened(t, d), 20, api.ErrFaulty)
}
