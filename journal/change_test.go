package journal_test

import (
	"bytes"
	"maps"
	"slices"
	"testing"

	"exchequer/api"
	"exchequer/disk"
	"exchequer/journal"
)

// seen is all that calls can tell of a disk but its fuse, told by clones where telling would change it.
type seen struct {
	ops      int
	up       bool
	loose    []int
	now, old []byte
}

func look(t testing.TB, d *disk.Disk) seen {
	t.Helper()
	s := seen{ops: d.Ops(), up: d.Up(), loose: d.Loose()}
	kept, lost := d.Clone(), d.Clone()
	ok(t, "Crash", kept.Crash(yes(d.Sectors()), -1))
	ok(t, "Crash", lost.Crash(nil, -1))
	var e api.Errno
	s.now, e = kept.Read(0, d.Sectors())
	ok(t, "Read", e)
	s.old, e = lost.Read(0, d.Sectors())
	ok(t, "Read", e)
	return s
}

// wantSame wants two looks to have seen the same.
func wantSame(t testing.TB, what string, got, want seen) {
	t.Helper()
	if got.ops != want.ops || got.up != want.up || !slices.Equal(got.loose, want.loose) {
		t.Errorf("%s: %d changes, up %v, loose %v, want %d, %v, %v", what, got.ops, got.up, got.loose, want.ops, want.up, want.loose)
	}
	if !bytes.Equal(got.now, want.now) {
		t.Errorf("%s: the sectors are not as they must be", what)
	}
	if !bytes.Equal(got.old, want.old) {
		t.Errorf("%s: what the sectors were is not as it must be", what)
	}
}

// change is what a call does to a disk: bytes from a sector on, or, if there are none, a flush.
type change struct {
	at int
	b  []byte
}

// behind is what a disk is behind changes, its fuse being out, if they are not all.
func behind(was seen, l []change, up bool) seen {
	x := seen{ops: was.ops + len(l), up: up, now: bytes.Clone(was.now), old: was.old}
	loose := map[int]int{}
	for _, at := range was.loose {
		loose[at]++
	}
	for _, c := range l {
		if c.b == nil {
			x.old = bytes.Clone(x.now)
			clear(loose)
			continue
		}
		copy(x.now[c.at*256:], c.b)
		for i := range len(c.b) / 256 {
			loose[c.at+i]++
		}
	}
	x.loose = slices.Sorted(maps.Keys(loose))
	return x
}

// wantChanges wants a call of the journal of a disk to make just these changes, in their order: of a fuse that lets fewer by it answers ErrBroken, and the journal knows what it knew; else it knows its slots to be so.
func wantChanges(t *testing.T, what string, d *disk.Disk, l []change, after []api.SlotState, call func(*journal.Journal) api.Errno) {
	t.Helper()
	was := look(t, d)
	for stop := range len(l) + 2 {
		c := d.Clone()
		j := opened(t, c)
		knew := j.Slots()
		fuse(t, c, stop)
		e := call(j)
		if stop < len(l) {
			want(t, what+", a fuse of too few", e, api.ErrBroken)
			wantSame(t, what+", a fuse of too few", look(t, c), behind(was, l[:stop], false))
			wantSlots(t, what+", a fuse of too few", j, knew)
			continue
		}
		want(t, what, e, api.OK)
		wantSame(t, what, look(t, c), behind(was, l, true))
		wantSlots(t, what, j, after)
	}
}

// putChanges are those of a Put, by the chapter's words.
func putChanges(m api.Message) []change {
	n := m.H.Op % 16
	return []change{{prepareAt(n), image(m)}, {}, {headAt(n), head(m)}, {}}
}

// mendChanges are those of a Mend of a disk whose slots have such pieces.
func mendChanges(ring []piece) []change {
	var l []change
	for n, p := range ring {
		if p.s.Mend {
			l = append(l, change{headAt(n), p.prepare[:256]})
		}
	}
	if len(l) > 0 {
		l = append(l, change{})
	}
	return l
}

// cutChanges are those of a Cut where a journal knows its slots to be so.
func cutChanges(known []api.SlotState, op int) []change {
	var heads, prepares []change
	for n, s := range known {
		if s.Op > 0 && s.Op > op {
			heads = append(heads, change{headAt(n), none(n)})
			prepares = append(prepares, change{prepareAt(n), zeros(1280)})
		}
	}
	if len(heads) == 0 {
		return nil
	}
	return slices.Concat(heads, []change{{}}, prepares, []change{{}})
}

// cut are the slots behind a Cut.
func cut(known []api.SlotState, op int) []api.SlotState {
	l := slices.Clone(known)
	for n, s := range l {
		if s.Op > 0 && s.Op > op {
			l[n] = empty
		}
	}
	return l
}

// mended are the slots behind a Mend.
func mended(known []api.SlotState) []api.SlotState {
	l := slices.Clone(known)
	for n := range l {
		l[n].Mend = false
	}
	return l
}
