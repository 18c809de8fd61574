package journal_test

import (
	"fmt"
	"math"
	"slices"
	"testing"

	"exchequer/api"
	"exchequer/journal"
)

// cutOps are those at which a ring is cut: below all, above all, the edges, and about each op that is there.
func cutOps(ring []piece) []int {
	l := ops()
	for _, p := range ring {
		l = append(l, p.s.Op-1, p.s.Op, p.s.Op+1)
	}
	slices.Sort(l)
	return slices.Compact(l)
}

// P8.4: Cut writes the headers of just those slots that have an Op above, rising, flushes, writes their prepares, rising, and flushes; where there are none it does nothing.
func TestCutsChanges(t *testing.T) {
	for i, ring := range rings() {
		d := having(t, ring)
		known := stateOf(ring)
		for _, op := range cutOps(ring) {
			// A fuse of each count at a few ops of each ring: at all of them it would take long.
			if l := cutChanges(known, op); (op+i)%5 == 0 || len(l) == 0 {
				wantChanges(t, fmt.Sprint("Cut of ", op), d, l, cut(known, op), func(j *journal.Journal) api.Errno { return j.Cut(op) })
			}
		}
	}
}

// P8.4: what is above is gone, at once and when the journal is opened anew; the rest is as it was.
func TestCut(t *testing.T) {
	for _, ring := range rings() {
		all := having(t, ring)
		known := stateOf(ring)
		for _, op := range cutOps(ring) {
			d := all.Clone()
			j := opened(t, d)
			was := look(t, d)
			ok(t, "Cut", j.Cut(op))
			wantSame(t, "Cut", look(t, d), behind(was, cutChanges(known, op), true))
			for _, k := range []*journal.Journal{j, opened(t, d)} {
				wantSlots(t, fmt.Sprint("Cut of ", op), k, cut(known, op))
				for _, p := range ring {
					if p.s.Op > op {
						refuseGet(t, fmt.Sprint("Cut of ", op), k, p.s.Op, api.ErrMissing)
					} else {
						wantOf(t, k, p.s.Op, p)
					}
				}
			}
			was = look(t, d)
			ok(t, "Cut again", j.Cut(op))
			wantSame(t, "Cut again", look(t, d), was)
		}
	}
}

// P8.4: slots that tell no op have none that is above anything: they stay as they are, whatever is cut.
func TestCutOfSlotsWithoutAnOp(t *testing.T) {
	ring := make([]piece, 16)
	for n := range ring {
		ring[n] = pieces(n)[n%4]
	}
	d := having(t, ring)
	j := opened(t, d)
	was := look(t, d)
	fuse(t, d, 0)
	for _, op := range []int{math.MinInt, -16, -1, 0, 1, most} {
		ok(t, "Cut", j.Cut(op))
		wantSame(t, "Cut of slots without an op", look(t, d), was)
		wantSlots(t, "Cut of slots without an op", j, stateOf(ring))
	}
}

// P8.4: below all, in the middle and above all of a ring that is full.
func TestCutOfAFullRing(t *testing.T) {
	for op := -1; op <= 37; op++ {
		d := formatted(t)
		j := opened(t, d)
		for at := 20; at < 36; at++ {
			ok(t, "Put", j.Put(prepare(at, at%4, at*28)))
		}
		ops := d.Ops()
		ok(t, "Cut", j.Cut(op))
		gone := min(max(35-op, 0), 16)
		made := 0
		if gone > 0 {
			made = 2*gone + 2
		}
		if got := d.Ops() - ops; got != made {
			t.Errorf("Cut of %d: %d changes, want %d", op, got, made)
		}
		for _, k := range []*journal.Journal{j, opened(t, d)} {
			for at := 20; at < 36; at++ {
				if at > op {
					refuseGet(t, "cut", k, at, api.ErrMissing)
				} else {
					wantGet(t, "not cut", k, prepare(at, at%4, at*28))
				}
			}
		}
	}
}

// P8.4: where there is nothing to do there is no flush, even where sectors are loose; but a disk that is out is told.
func TestCutOfNothing(t *testing.T) {
	d := having(t, rings()[0])
	j := opened(t, d)
	ok(t, "Write", d.Write(0, some(256)))
	was := look(t, d)
	fuse(t, d, 0)
	ok(t, "Cut", j.Cut(most))
	wantSame(t, "Cut of nothing", look(t, d), was)
	blow(t, d)
	was = look(t, d)
	for _, op := range ops() {
		want(t, "Cut, out", j.Cut(op), api.ErrBroken)
	}
	wantSame(t, "Cut, out", look(t, d), was)
	wantSlots(t, "Cut, out", j, stateOf(rings()[0]))
}

// P8.4: what is known counts, not what the disk has: what was put since is cut, what others put there is not.
func TestCutOfWhatIsKnown(t *testing.T) {
	d := formatted(t)
	j, other := opened(t, d), opened(t, d)
	ok(t, "Put", other.Put(prepare(5, 1, 10)))
	was := look(t, d)
	ok(t, "Cut", j.Cut(0))
	wantSame(t, "another one's", look(t, d), was)
	ok(t, "Put", j.Put(prepare(6, 1, 10)))
	ok(t, "Put", j.Put(prepare(23, 1, 10)))
	ok(t, "Turn", d.Turn(prepareAt(7), 0, 1))
	refuseGet(t, "turned", j, 23, api.ErrFaulty)
	ok(t, "Cut", j.Cut(5))
	wantSlots(t, "cut", j, empties())
	after := empties()
	after[5] = have(5, 1)
	wantSlots(t, "cut, opened anew", opened(t, d), after)
	ok(t, "Put", j.Put(prepare(7, 2, 1)))
	wantGet(t, "put behind a cut", j, prepare(7, 2, 1))
	wantGet(t, "put behind a cut", opened(t, d), prepare(7, 2, 1))
}
