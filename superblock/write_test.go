package superblock_test

import (
	"bytes"
	"slices"
	"testing"

	"exchequer/api"
	"exchequer/disk"
	"exchequer/superblock"
)

// refuseWrite wants Write to answer an error, with zero values beside it.
func refuseWrite(t testing.TB, what string, d *disk.Disk, s api.Super, want api.Errno) {
	t.Helper()
	if got, e := superblock.Write(d, s); e != want || !same(got, api.Super{}) {
		t.Errorf("%s: Write: %+v, %v, want %v", what, got, e, want)
	}
}

// wantWrite wants Write to answer a superblock with that Sequence.
func wantWrite(t testing.TB, what string, d *disk.Disk, s api.Super, sequence int) {
	t.Helper()
	got, e := superblock.Write(d, s)
	s.Sequence = sequence
	if e != api.OK || !same(got, s) {
		t.Fatalf("%s: Write: %+v, %v, want %+v", what, got, e, s)
	}
}

// wantCopies wants all four copies to be a superblock, and to be safe.
func wantCopies(t testing.TB, what string, d *disk.Disk, s api.Super) {
	t.Helper()
	x := look(t, d)
	if !bytes.Equal(x.now[:2048], bytes.Repeat(laid(s), 4)) || !bytes.Equal(x.now, x.old) || len(x.loose) != 0 {
		t.Errorf("%s: the copies are not all the superblock, or not safe", what)
	}
}

// P6.3: Format, Write and Open, one behind the other; what Sequence is handed in does not count.
func TestFormatWriteOpen(t *testing.T) {
	for _, sectors := range []int{8, 9, 30} {
		d := made(t, sectors)
		for _, first := range supers() {
			ok(t, "Format", superblock.Format(d, first))
			first.Sequence = 1
			wantOpen(t, "formatted", d, first)
			wantCopies(t, "formatted", d, first)
			for i, s := range supers() {
				wantWrite(t, "behind it", d, s, i+2)
				s.Sequence = i + 2
				wantOpen(t, "written", d, s)
				wantCopies(t, "written", d, s)
			}
		}
	}
}

// P6.3: the Sequence that is handed in does not count, be it one that may be or not.
func TestSequenceIsNotTaken(t *testing.T) {
	for _, sequence := range []int{-1 << 63, -1, 0, 1, 2, 77, most, most + 1, 1<<63 - 1} {
		s := full(3)
		s.Sequence = sequence
		d := made(t, 8)
		ok(t, "Format", superblock.Format(d, s))
		wantWrite(t, "behind a Format", d, s, 2)
		wantWrite(t, "behind a Write", d, s, 3)
	}
}

// P6.3: Format is one Write of all copies and one Flush; each fuse leaves what comes ahead of it.
func TestFormatsChanges(t *testing.T) {
	s := full(32)
	s.Sequence = 1
	after := bytes.Repeat(laid(s), 4)
	for stop := range 4 {
		d := formatted(t, greatest())
		ops, old := d.Ops(), look(t, d).now
		ok(t, "Fuse", disk.Fuse([]*disk.Disk{d}, stop))
		if e := superblock.Format(d, s); stop < 2 && e != api.ErrBroken || stop >= 2 && e != api.OK {
			t.Errorf("Format at a fuse of %d: %v", stop, e)
		}
		x := seen{ops: ops + min(stop, 2), up: stop >= 2, now: after, old: old}
		switch {
		case stop == 0:
			x.now = old
		case stop == 1:
			x.loose = []int{0, 1, 2, 3, 4, 5, 6, 7}
		default:
			x.old = after
		}
		wantSame(t, "Format", look(t, d), x)
	}
}

// change is what a Write does to a disk: bytes from a sector on, or, if there are none, a flush.
type change struct {
	at int
	b  []byte
}

// changes are those of a Write of bytes, by the chapter's words, ahead of which these copies were there and that one was open.
func changes(copies []piece, at int, b []byte) []change {
	var l []change
	for i, c := range copies {
		if !bytes.Equal(c.b, copies[at].b) {
			l = append(l, change{2 * i, copies[at].b})
		}
	}
	if len(l) > 0 {
		l = append(l, change{})
	}
	twice := append(bytes.Clone(b), b...)
	return append(l, change{0, twice}, change{}, change{4, twice}, change{})
}

// behind is what a disk is behind changes, its fuse being out, if they are not all.
func behind(was seen, l []change, up bool) seen {
	x := seen{ops: was.ops + len(l), up: up, now: bytes.Clone(was.now), old: was.old}
	for _, c := range l {
		if c.b == nil {
			x.old, x.loose = bytes.Clone(x.now), nil
			continue
		}
		copy(x.now[c.at*256:], c.b)
		for i := range len(c.b) / 256 {
			x.loose = append(x.loose, c.at+i)
		}
	}
	return x
}

// P6.3: Write's changes, one by one, in all ways in which four copies may be: each fuse leaves what comes ahead of it, and nothing else.
func TestWritesChanges(t *testing.T) {
	s := full(20)
	for _, which := range fours(len(pieces())) {
		copies, d := four(t, which)
		was, at := look(t, d), open(copies)
		if at < 0 {
			refuseWrite(t, "nothing is open", d, s, api.ErrQuorum)
			wantSame(t, "nothing is open", look(t, d), was)
			continue
		}
		s.Sequence = copies[at].s.Sequence + 1
		l := changes(copies, at, laid(s))
		for stop := range len(l) + 1 {
			c := d.Clone()
			ok(t, "Fuse", disk.Fuse([]*disk.Disk{c}, stop))
			if stop < len(l) {
				refuseWrite(t, "a fuse", c, s, api.ErrBroken)
			} else {
				wantWrite(t, "a fuse that lets all by", c, s, s.Sequence)
			}
			wantSame(t, "Write", look(t, c), behind(was, l[:stop], stop == len(l)))
		}
	}
}

// P6.3: where all copies are the open bytes, there is nothing to be written so, and no flush for it: two Writes and two flushes are all.
func TestWritesChangesOfCopiesThatAreAlike(t *testing.T) {
	d := formatted(t, full(2))
	ops := d.Ops()
	wantWrite(t, "alike", d, full(3), full(2).Sequence+1)
	if got := d.Ops() - ops; got != 4 {
		t.Errorf("%d changes, want 4", got)
	}
	ok(t, "Turn", d.Turn(7, 255, 0x80))
	ok(t, "Turn", d.Turn(3, 0, 1))
	ops = d.Ops()
	wantWrite(t, "two turned", d, full(3), full(2).Sequence+2)
	if got := d.Ops() - ops; got != 7 {
		t.Errorf("two turned: %d changes, want 7", got)
	}
}

// P6.3: sectors behind the eighth are left as they are, but made safe by the flushes.
func TestOtherSectorsStay(t *testing.T) {
	d := made(t, 12)
	other := bytes.Repeat([]byte{7}, 4*256)
	ok(t, "Write", d.Write(8, other))
	ok(t, "Format", superblock.Format(d, least()))
	wantWrite(t, "a Write", d, full(32), 2)
	ok(t, "Turn", d.Turn(1, 1, 1))
	wantWrite(t, "a Write that mends", d, full(32), 3)
	ok(t, "Crash", d.Crash(nil, 0))
	if b, e := d.Read(8, 4); e != api.OK || !bytes.Equal(b, other) {
		t.Errorf("what stands behind the copies is not as it was: %v", e)
	}
}

// P6.3: the last Sequence, and the one ahead of it.
func TestLastSequence(t *testing.T) {
	s := full(1)
	s.Sequence = most - 1
	d := formatted(t, s)
	s.View = 3
	wantWrite(t, "the last one", d, s, most)
	s.Sequence = most
	wantOpen(t, "the last one", d, s)
	was := look(t, d)
	refuseWrite(t, "behind the last one", d, least(), api.ErrFull)
	wantSame(t, "ErrFull", look(t, d), was)
	ok(t, "Turn", d.Turn(6, 3, 1))
	was = look(t, d)
	refuseWrite(t, "behind the last one, a copy turned", d, least(), api.ErrFull)
	wantSame(t, "ErrFull", look(t, d), was)
	wantOpen(t, "behind that", d, s)
	ok(t, "Format", superblock.Format(d, s))
	s.Sequence = 1
	wantCopies(t, "formatted anew", d, s)
}

// wrongs are superblocks that may not be, whatever their Sequence.
func wrongs() []api.Super {
	var l []api.Super
	for _, x := range numbers()[1:] {
		for _, v := range []int{-1, x.most + 1} {
			s := full(2)
			*x.of(&s) = v
			l = append(l, s)
		}
	}
	for _, n := range []int{-3, 0, 2, 4, 5, 6, 8} {
		s := full(2)
		s.N = n
		l = append(l, s)
	}
	s := full(33)
	l = append(l, s)
	s = full(32)
	s.Heads[31].Op = -1
	l = append(l, s)
	s = full(32)
	s.Heads[0].View = most + 1
	return append(l, s, api.Super{})
}

// P6.3, rule 3: a superblock that may not be is refused, and nothing is changed, not even a fuse, or a copy that is not whole.
func TestWrongOnes(t *testing.T) {
	for _, s := range wrongs() {
		d := formatted(t, full(1))
		ok(t, "Turn", d.Turn(5, 5, 5))
		ok(t, "Write", d.Write(0, laid(least())))
		was := look(t, d)
		ok(t, "Fuse", disk.Fuse([]*disk.Disk{d}, 1))
		want(t, "Format", superblock.Format(d, s), api.ErrArg)
		refuseWrite(t, "one that may not be", d, s, api.ErrArg)
		wantSame(t, "one that may not be", look(t, d), was)
		ok(t, "the fuse's one change", d.Flush())
		want(t, "the next one", d.Flush(), api.ErrBroken)
	}
}

// P6.3: the order of the errors, with more than one thing wrong.
func TestWriteOrderOfErrors(t *testing.T) {
	last := full(1)
	last.Sequence = most
	for _, s := range append(wrongs(), full(1)) {
		may := superblock.Check(s) == api.OK
		// Format tells what it is handed to be wrong ahead of what the disk is.
		format := func(behind api.Errno) api.Errno {
			if !may {
				return api.ErrArg
			}
			return behind
		}
		few := made(t, 7)
		want(t, "Format, 7 sectors", superblock.Format(few, s), format(api.ErrRange))
		refuseWrite(t, "7 sectors", few, s, api.ErrRange)
		blow(t, few)
		want(t, "Format, 7 sectors, out", superblock.Format(few, s), format(api.ErrBroken))
		refuseWrite(t, "7 sectors, out", few, s, api.ErrBroken)

		d := formatted(t, last)
		refuseWrite(t, "the last Sequence", d, s, api.ErrFull)
		blow(t, d)
		want(t, "Format, out", superblock.Format(d, s), format(api.ErrBroken))
		refuseWrite(t, "the last Sequence, out", d, s, api.ErrBroken)

		refuseWrite(t, "a new disk", made(t, 8), s, api.ErrQuorum)
	}
}

// Rule 3: what answers an error of the disk's state changes nothing there.
func TestErrorsChangeNothing(t *testing.T) {
	few := made(t, 7)
	ok(t, "Write", few.Write(0, bytes.Repeat([]byte{3}, 256)))
	was := look(t, few)
	want(t, "Format, 7 sectors", superblock.Format(few, least()), api.ErrRange)
	refuseWrite(t, "7 sectors", few, least(), api.ErrRange)
	wantShut(t, "7 sectors", few, api.ErrRange)
	wantSame(t, "7 sectors", look(t, few), was)

	d := formatted(t, full(1))
	ok(t, "Write", d.Write(4, laid(full(2))))
	blow(t, d)
	was = look(t, d)
	want(t, "Format, out", superblock.Format(d, least()), api.ErrBroken)
	refuseWrite(t, "out", d, least(), api.ErrBroken)
	wantShut(t, "out", d, api.ErrBroken)
	wantSame(t, "out", look(t, d), was)
}

// Rule 4: what is handed in stays as it was, is not kept, and its spare room is neither read nor handed out; what Write answers is new memory.
func TestWriteKeepsNothingHandedIn(t *testing.T) {
	for _, count := range []int{0, 1, 5, 32} {
		room := append(heads(count, 4), api.Head{Op: -1, View: -1}, api.Head{Op: most + 1})
		was := slices.Clone(room)
		s := full(0)
		s.Heads = room[:count]
		kept := full(0)
		kept.Heads = slices.Clone(was[:count])

		d := made(t, 8)
		ok(t, "Format", superblock.Format(d, s))
		got, e := superblock.Write(d, s)
		ok(t, "Write", e)
		if !slices.Equal(room, was) {
			t.Errorf("what was handed in is changed: %v, was %v", room, was)
		}
		for _, h := range got.Heads[len(got.Heads):cap(got.Heads)] {
			if h != (api.Head{}) {
				t.Errorf("the spare room of what was handed in is handed out: %v", h)
			}
		}
		spoil(got.Heads)
		if !slices.Equal(room, was) {
			t.Error("what Write answers is no new memory")
		}
		got, e = superblock.Write(d, s)
		ok(t, "Write", e)
		spoil(room)
		kept.Sequence = 3
		if !same(got, kept) {
			t.Errorf("what Write answered has changed with what was handed in: %+v", got)
		}
		wantOpen(t, "what was handed in is changed", d, kept)
	}
}

// The chapter's examples.
func TestExamples(t *testing.T) {
	d := made(t, 8)
	s := api.Super{Sequence: 1, N: 3, Me: 1, View: 4}
	wantShut(t, "a new disk", d, api.ErrQuorum)
	ok(t, "Format", superblock.Format(d, s))
	wantOpen(t, "formatted", d, s)
	s.View = 5
	wantWrite(t, "View 5", d, s, 2)
	s.Sequence = 2
	wantOpen(t, "View 5", d, s)
	ok(t, "Turn", d.Turn(0, 99, 4))
	ok(t, "Turn", d.Turn(3, 255, 1))
	wantOpen(t, "two copies turned", d, s)
	ok(t, "Turn", d.Turn(4, 0, 1))
	wantShut(t, "three copies turned", d, api.ErrQuorum)
	wantShut(t, "7 sectors", made(t, 7), api.ErrRange)
	s.N = 4
	want(t, "Check", superblock.Check(s), api.ErrArg)
	s.N = 3
	if b, e := superblock.Bytes(s); e != api.OK || len(b) != 512 {
		t.Errorf("Bytes: %d, %v", len(b), e)
	}
}
