package journal_test

import (
	"bytes"
	"testing"

	"exchequer/api"
	"exchequer/journal"
)

// mends are rings of which these slots are to be mended, each in one of the ways in which that may be, and the others are something else.
func mends(which ...int) []piece {
	ring := make([]piece, 16)
	for n := range ring {
		all := pieces(n)
		ring[n] = all[n%8]
	}
	for i, n := range which {
		ring[n] = pieces(n)[8+i%4]
	}
	return ring
}

// mendRings are rings with none, one, some and 16 slots that are to be mended.
func mendRings() [][]piece {
	all := []int{0, 1, 2, 3, 4, 5, 6, 7, 8, 9, 10, 11, 12, 13, 14, 15}
	return append(rings(), mends(), mends(0), mends(15), mends(7, 3), mends(0, 5, 9, 15), mends(all...))
}

// P8.4: Mend writes the headers of just those slots that are Have with Mend, rising, and flushes; where there are none it does nothing.
func TestMend(t *testing.T) {
	for _, ring := range mendRings() {
		d := having(t, ring)
		after := mended(stateOf(ring))
		wantChanges(t, "Mend", d, mendChanges(ring), after, (*journal.Journal).Mend)
		j := opened(t, d)
		for range 2 {
			ok(t, "Mend", j.Mend())
			anew := opened(t, d)
			wantSlots(t, "mended", j, after)
			wantSlots(t, "mended, opened anew", anew, after)
			for _, p := range ring {
				if p.s.State == api.Have {
					wantGet(t, "mended, "+p.name, j, p.m)
					wantGet(t, "mended, opened anew, "+p.name, anew, p.m)
				}
			}
		}
	}
}

// P8.4: where there is nothing to do there is no flush, even where sectors are loose; but a disk that is out is told.
func TestMendOfNothing(t *testing.T) {
	d := having(t, mends())
	j := opened(t, d)
	ok(t, "Write", d.Write(0, some(256)))
	was := look(t, d)
	fuse(t, d, 0)
	ok(t, "Mend", j.Mend())
	wantSame(t, "Mend of nothing", look(t, d), was)
	blow(t, d)
	was = look(t, d)
	want(t, "Mend, out", j.Mend(), api.ErrBroken)
	wantSame(t, "Mend, out", look(t, d), was)
}

// P8.4: a disk that is out ahead of a Mend: nothing is done, and nothing becomes known.
func TestMendOfADiskThatIsOut(t *testing.T) {
	for _, ring := range mendRings() {
		d := having(t, ring)
		j := opened(t, d)
		blow(t, d)
		was := look(t, d)
		want(t, "Mend, out", j.Mend(), api.ErrBroken)
		wantSame(t, "Mend, out", look(t, d), was)
		wantSlots(t, "Mend, out", j, stateOf(ring))
		ok(t, "Crash", d.Crash(nil, 0))
		ok(t, "Mend, up again", j.Mend())
		wantSlots(t, "Mend, up again", j, mended(stateOf(ring)))
	}
}

// P8.4: the header is written as the disk has the prepare's front now, be it turned since; the slot is Have without Mend then, until a Get finds otherwise.
func TestMendOfWhatIsTurnedSince(t *testing.T) {
	for _, at := range []int{0, 40, 255, 300} {
		ring := mends(1, 2)
		d := having(t, ring)
		j := opened(t, d)
		b := bytes.Clone(ring[1].prepare)
		b[at] ^= 4
		ok(t, "Turn", d.Turn(prepareAt(1)+at/256, at%256, 4))
		was := look(t, d)
		ok(t, "Mend", j.Mend())
		l := []change{{headAt(1), b[:256]}, {headAt(2), ring[2].prepare[:256]}, {}}
		wantSame(t, "Mend of a turned one", look(t, d), behind(was, l, true))
		wantSlots(t, "Mend of a turned one", j, mended(stateOf(ring)))
		refuseGet(t, "Mend of a turned one", j, ring[1].s.Op, api.ErrFaulty)
		if opened(t, d).Slots()[1].State != api.Faulty {
			t.Error("a turned one that was mended is not Faulty when it is opened anew")
		}
	}
}

// P8.4: a slot that a Get found to be Faulty, or that was put or cut since, is not mended any more.
func TestMendOfWhatIsKnownOtherwise(t *testing.T) {
	for what, call := range map[string]func(*journal.Journal, piece){
		"got": func(j *journal.Journal, p piece) { refuseGet(t, "turned", j, p.s.Op, api.ErrFaulty) },
		"put": func(j *journal.Journal, p piece) { ok(t, "Put", j.Put(p.m)) },
		"cut": func(j *journal.Journal, p piece) { ok(t, "Cut", j.Cut(p.s.Op-1)) },
	} {
		ring := mends(5)
		d := having(t, ring)
		j := opened(t, d)
		ok(t, "Turn", d.Turn(prepareAt(5), 40, 1))
		call(j, ring[5])
		was := look(t, d)
		knew := j.Slots()
		ok(t, "Mend", j.Mend())
		wantSame(t, what, look(t, d), was)
		wantSlots(t, what, j, knew)
	}
}
