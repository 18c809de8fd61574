package journal_test

import (
	"bytes"
	"slices"
	"testing"

	"exchequer/api"
	"exchequer/disk"
	"exchequer/journal"
)

// empties are 16 slots that are Empty.
func empties() []api.SlotState { return slices.Repeat([]api.SlotState{empty}, 16) }

// formatChanges are those of a Format, by the chapter's words.
func formatChanges() []change {
	var heads []byte
	for n := range 16 {
		heads = append(heads, none(n)...)
	}
	return []change{{24, zeros(80 * 256)}, {8, heads}, {}}
}

// filled is a disk that has other bytes all over, some of them loose.
func filled(t testing.TB, sectors int) *disk.Disk {
	t.Helper()
	d := made(t, sectors)
	ok(t, "Write", d.Write(0, some(sectors*256)))
	ok(t, "Flush", d.Flush())
	ok(t, "Write", d.Write(2, some(256)))
	ok(t, "Write", d.Write(9, some(2*256)))
	ok(t, "Write", d.Write(sectors-1, some(256)))
	return d
}

// P8.1: Format is a Write of the prepares, one of the headers, and a Flush, in this order; what stands ahead of the rings and behind them is left. Behind it all slots are Empty.
func TestFormat(t *testing.T) {
	for _, count := range []int{104, 105, 300} {
		d := filled(t, count)
		was := look(t, d)
		l := formatChanges()
		for stop := range len(l) + 2 {
			c := d.Clone()
			fuse(t, c, stop)
			e := journal.Format(c)
			if stop < len(l) {
				want(t, "Format, a fuse of too few", e, api.ErrBroken)
				wantSame(t, "Format, a fuse of too few", look(t, c), behind(was, l[:stop], false))
				continue
			}
			want(t, "Format", e, api.OK)
			wantSame(t, "Format", look(t, c), behind(was, l, true))
			wantSlots(t, "Format", opened(t, c), empties())
		}
	}
}

// P8.1: what was in a ring is gone behind a Format, whatever it was; formatting twice is as good as once.
func TestFormatOverAnother(t *testing.T) {
	for _, ring := range rings() {
		d := having(t, ring)
		for range 2 {
			ok(t, "Format", journal.Format(d))
			j := opened(t, d)
			wantSlots(t, "formatted", j, empties())
			for _, p := range ring {
				refuseGet(t, "formatted", j, p.s.Op, api.ErrMissing)
			}
		}
	}
}

// P8.1: disks that have too few sectors, and just enough.
func TestFewSectors(t *testing.T) {
	for _, count := range []int{1, 8, 23, 24, 96, 102, 103} {
		d := made(t, count)
		ok(t, "Write", d.Write(0, some(256)))
		was := look(t, d)
		want(t, "Format", journal.Format(d), api.ErrRange)
		wantShut(t, "few sectors", d, api.ErrRange)
		wantSame(t, "few sectors", look(t, d), was)
	}
	for _, count := range []int{104, 105, 2152, 65536} {
		d := made(t, count)
		ok(t, "Format", journal.Format(d))
		j := opened(t, d)
		ok(t, "Put", j.Put(prepare(15, 1, 1024)))
		wantGet(t, "enough sectors", j, prepare(15, 1, 1024))
		wantGet(t, "enough sectors", opened(t, d), prepare(15, 1, 1024))
	}
}

// P8.1: a disk that is out is told ahead of its having too few sectors, and stays as it was.
func TestOutAheadOfFewSectors(t *testing.T) {
	for _, count := range []int{1, 103, 104, 105} {
		d := made(t, count)
		ok(t, "Write", d.Write(0, some(256)))
		blow(t, d)
		was := look(t, d)
		want(t, "Format, out", journal.Format(d), api.ErrBroken)
		wantShut(t, "out", d, api.ErrBroken)
		wantSame(t, "out", look(t, d), was)
	}
}

// P8.1: Open looks at each slot, whatever is there, safe or loose, and changes nothing.
func TestOpen(t *testing.T) {
	for _, ring := range rings() {
		for _, safe := range []bool{true, false} {
			d := having(t, ring)
			if !safe {
				d = formatted(t)
				for n, p := range ring {
					lay(t, d, n, p)
				}
			}
			was := look(t, d)
			fuse(t, d, 0)
			wantSlots(t, "opened", opened(t, d), stateOf(ring))
			wantSame(t, "Open", look(t, d), was)
		}
	}
}

// P8.1: a disk that nobody has formatted has no slot that is known.
func TestOpenOfANewDisk(t *testing.T) {
	j := opened(t, made(t, sectors))
	wantSlots(t, "a new disk", j, slices.Repeat([]api.SlotState{unknown}, 16))
	for op := -1; op < 34; op++ {
		refuseGet(t, "a new disk", j, op, api.ErrMissing)
	}
}

// P8.1: each slot's header and prepare stand where the chapter says, and nowhere else.
func TestPlaces(t *testing.T) {
	for n := range 16 {
		m := full(n+16, 1024)
		d := formatted(t)
		was := look(t, d)
		ok(t, "Put", opened(t, d).Put(m))
		got := look(t, d)
		copy(was.now[(8+n)*256:], laid(m)[:256])
		copy(was.now[(24+5*n)*256:], laid(m))
		if !bytes.Equal(got.now, was.now) {
			t.Errorf("slot %d: its bytes stand elsewhere", n)
		}
	}
}

// P8.1: a journal's disk is that very one, not a copy: what is done to it by others is seen, and what the journal does is done there.
func TestThatVeryDisk(t *testing.T) {
	d := formatted(t)
	c := d.Clone()
	j, other := opened(t, d), opened(t, d)
	ops := d.Ops()
	ok(t, "Put", j.Put(prepare(3, 1, 5)))
	if d.Ops() != ops+4 {
		t.Errorf("Put made %d changes at its disk", d.Ops()-ops)
	}
	wantSlots(t, "a clone of the disk", opened(t, c), empties())
	wantSlots(t, "a journal that was opened ahead", other, empties())
	refuseGet(t, "a journal that was opened ahead", other, 3, api.ErrMissing)
	wantGet(t, "a journal that is opened behind", opened(t, d), prepare(3, 1, 5))
	ok(t, "Turn", d.Turn(prepareAt(3), 40, 1))
	refuseGet(t, "turned", j, 3, api.ErrFaulty)
	blow(t, d)
	want(t, "out", j.Put(prepare(3, 1, 5)), api.ErrBroken)
	want(t, "out", other.Put(prepare(3, 1, 5)), api.ErrBroken)
	ok(t, "Crash", d.Crash(nil, 0))
	ok(t, "Put", other.Put(prepare(3, 1, 5)))
}

// P8.1: what a journal knows is what it was when it was opened; of what others do to its disk it knows nothing.
func TestSlotsAreNotLookedAtAnew(t *testing.T) {
	for _, ring := range rings() {
		d := having(t, ring)
		j := opened(t, d)
		ok(t, "Format", journal.Format(d))
		wantSlots(t, "formatted behind", j, stateOf(ring))
		blow(t, d)
		wantSlots(t, "out", j, stateOf(ring))
	}
}

// Rule 4: what Slots tells is new memory, each time.
func TestSlotsMemory(t *testing.T) {
	for _, ring := range rings() {
		j := opened(t, having(t, ring))
		l, again := j.Slots(), j.Slots()
		for i := range l[:cap(l)] {
			l[:cap(l)][i] = api.SlotState{State: 77, Op: 1, View: 1, Mend: true}
		}
		if !slices.Equal(again, stateOf(ring)) {
			t.Errorf("two answers share memory")
		}
		wantSlots(t, "an answer was spoilt", j, stateOf(ring))
	}
}

// Rule 5: a disk that is nil, or that no function of its package made, is told ahead of all else.
func TestOfNoDisk(t *testing.T) {
	d := formatted(t)
	was := look(t, d)
	copied := *d
	var nobody *disk.Disk
	for what, x := range map[string]*disk.Disk{"nil": nil, "an empty one": {}, "a copy": &copied, "a clone of none": nobody.Clone()} {
		want(t, what+": Format", journal.Format(x), api.ErrNil)
		wantShut(t, what, x, api.ErrNil)
	}
	wantSame(t, "calls with a copy", look(t, d), was)
}

// Rule 5: a journal that is nil, or that Open did not make.
func TestOfNoJournal(t *testing.T) {
	d := formatted(t)
	real := opened(t, d)
	ok(t, "Put", real.Put(prepare(3, 1, 5)))
	was := look(t, d)
	copied := *real
	for what, j := range map[string]*journal.Journal{"nil": nil, "an empty one": {}, "a copy": &copied} {
		for _, m := range append(wrongs(), prepare(1, 0, 0)) {
			want(t, what+": Put", j.Put(m), api.ErrNil)
		}
		for _, op := range []int{-1, 0, 3, 19, most} {
			refuseGet(t, what, j, op, api.ErrNil)
			want(t, what+": Cut", j.Cut(op), api.ErrNil)
		}
		want(t, what+": Mend", j.Mend(), api.ErrNil)
		if l := j.Slots(); len(l) != 0 {
			t.Errorf("%s: Slots: %v", what, l)
		}
	}
	wantSame(t, "calls of a copy", look(t, d), was)
	blow(t, d)
	for what, j := range map[string]*journal.Journal{"nil": nil, "an empty one": {}, "a copy": &copied} {
		want(t, what+", out: Put", j.Put(prepare(1, 0, 0)), api.ErrNil)
		refuseGet(t, what+", out", j, 3, api.ErrNil)
		want(t, what+", out: Mend", j.Mend(), api.ErrNil)
		want(t, what+", out: Cut", j.Cut(0), api.ErrNil)
	}
}
