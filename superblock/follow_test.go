package superblock_test

import (
	"bytes"
	"fmt"
	"testing"

	"exchequer/api"
	"exchequer/disk"
	"exchequer/superblock"
)

// crashes are all ways in which a disk of loose sectors may crash: any of them kept, and any one of these torn, or none.
func crashes(t testing.TB, d *disk.Disk, each func(*disk.Disk)) {
	t.Helper()
	loose := len(d.Loose())
	for set := range 1 << loose {
		keeps := make([]bool, loose)
		stay := 0
		for i := range keeps {
			keeps[i] = set>>i&1 == 1
			if keeps[i] {
				stay++
			}
		}
		for tear := -1; tear < stay; tear++ {
			c := d.Clone()
			ok(t, "Crash", c.Crash(keeps, tear))
			each(c)
		}
	}
}

// state is a disk that has crashed, and what was open there when it was opened last.
type state struct {
	d    *disk.Disk
	open api.Super
}

// name tells states apart by what their disks have.
func name(t testing.TB, d *disk.Disk) string {
	t.Helper()
	b, e := d.Read(0, d.Sectors())
	ok(t, "Read", e)
	return string(b)
}

// next is one that differs from all others in both sectors of a copy, in each half of the first one, and in the one half of the second one in which anything stands.
func next(open api.Super, seed int) api.Super {
	return api.Super{Sequence: open.Sequence + 1, N: 5, Me: 2, View: open.View + 1, Commit: seed, Fetching: seed%2 == 1, Heads: heads(32, seed)}
}

// P6.4: a crash ahead of, between and behind the changes of a Write, with any of the loose sectors kept and any one of them torn, and another Write behind it that crashes so, three of them one behind the other: what is open is what was open, or what was being written.
func TestCrashes(t *testing.T) {
	first := next(api.Super{}, 1)
	states := []state{{formatted(t, first), first}}
	for round := range 3 {
		var behind []state
		there := map[string]int{}
		for _, x := range states {
			s := next(x.open, round+2)
			for stop, done := 0, false; !done; stop++ {
				d := x.d.Clone()
				ok(t, "Fuse", disk.Fuse([]*disk.Disk{d}, stop))
				_, e := superblock.Write(d, s)
				done = e == api.OK
				crashes(t, d, func(c *disk.Disk) {
					got, f := superblock.Open(c)
					if f != api.OK || !same(got, s) && (done || !same(got, x.open)) {
						t.Fatalf("round %d, a fuse of %d: Write: %v; Open: Sequence %d of View %d, %v", round, stop, e, got.Sequence, got.View, f)
					}
					if n := name(t, c); there[n] == 0 {
						there[n]++
						behind = append(behind, state{c, got})
					}
				})
			}
		}
		states = behind
		if round == 0 && len(states) < 50 {
			t.Errorf("%d states behind a Write: the crashes are too much alike", len(states))
		}
	}
}

// P6.4: what was opened once is open, or something later, ever after, whatever the copies were when it was opened. (Where a copy was turned, a sector that is written so as to mend it may make it whole again as what it was: that may be something later.)
func TestCrashesOfWhateverIsOpen(t *testing.T) {
	for _, which := range fours(5) {
		copies, d := four(t, which)
		at := open(copies)
		if at < 0 {
			continue
		}
		s := next(copies[at].s, 9)
		for stop, done := 0, false; !done; stop++ {
			c := d.Clone()
			ok(t, "Fuse", disk.Fuse([]*disk.Disk{c}, stop))
			_, e := superblock.Write(c, s)
			done = e == api.OK
			crashes(t, c, func(c *disk.Disk) {
				got, f := superblock.Open(c)
				later := got.Sequence > copies[at].s.Sequence
				if f != api.OK || !same(got, s) && (done || !same(got, copies[at].s) && !later) {
					t.Fatalf("%v, a fuse of %d: Write: %v; Open: Sequence %d of View %d, %v", which, stop, e, got.Sequence, got.View, f)
				}
			})
		}
	}
}

// P6.4: a crash in the Format of a new disk leaves nothing open, or what was being written; behind it that is open.
func TestCrashesOfFormat(t *testing.T) {
	s := next(api.Super{}, 3)
	for stop := range 3 {
		d := made(t, 8)
		ok(t, "Fuse", disk.Fuse([]*disk.Disk{d}, stop))
		done := superblock.Format(d, s) == api.OK
		if done != (stop == 2) {
			t.Errorf("Format at a fuse of %d: done is %v", stop, done)
		}
		opened, shut := 0, 0
		crashes(t, d, func(c *disk.Disk) {
			got, e := superblock.Open(c)
			switch {
			case e == api.OK && same(got, s):
				opened++
			case e == api.ErrQuorum && same(got, api.Super{}) && !done:
				shut++
			default:
				t.Fatalf("a fuse of %d: Open: %+v, %v", stop, got, e)
			}
		})
		if stop == 0 && opened > 0 || stop == 1 && (opened == 0 || shut == 0) {
			t.Errorf("a fuse of %d: %d open, %d not", stop, opened, shut)
		}
	}
}

// turn turns bits of a byte of a copy.
func turn(t testing.TB, d *disk.Disk, number, at int, mask byte) {
	t.Helper()
	ok(t, "Turn", d.Turn(2*number+at/256, at%256, mask))
}

// written is a disk on which a superblock was written, not the first one.
func written(t testing.TB) (*disk.Disk, api.Super) {
	t.Helper()
	d := made(t, 8)
	ok(t, "Format", superblock.Format(d, full(2)))
	wantWrite(t, "the first one", d, next(full(2), 5), 2)
	s := next(api.Super{Sequence: 2}, 6)
	wantWrite(t, "the next one", d, s, 3)
	return d, s
}

// P6.5: each bit of a copy, turned.
func TestOneCopyTurned(t *testing.T) {
	d, s := written(t)
	for number := range 4 {
		for at := range 512 {
			mask := byte(1) << (at % 8)
			turn(t, d, number, at, mask)
			wantOpen(t, "one turned", d, s)
			turn(t, d, number, at, mask)
		}
	}
}

// P6.5: bytes of two copies, turned, alike and not; of three and of all nothing is left. Write makes all copies whole again.
func TestCopiesTurned(t *testing.T) {
	for set := range 16 {
		d, s := written(t)
		for _, apart := range []int{0, 1, 100} {
			for at := range 512 {
				turned := 0
				x := d.Clone()
				for number := range 4 {
					if set>>number&1 == 1 {
						turn(t, x, number, (at+number*apart)%512, byte(at+1)|1)
						turned++
					}
				}
				if turned > 2 {
					wantShut(t, fmt.Sprintf("%b turned", set), x, api.ErrQuorum)
					continue
				}
				wantOpen(t, fmt.Sprintf("%b turned", set), x, s)
				if at%64 == 0 {
					more := next(s, 7)
					wantWrite(t, "turned", x, more, 4)
					wantCopies(t, "turned, and written", x, more)
				}
			}
		}
	}
}

// P6.5: many bytes of two copies, up to all of them.
func TestCopiesTurnedWhole(t *testing.T) {
	for first := range 4 {
		for second := range first {
			d, s := written(t)
			for at := range 512 {
				turn(t, d, first, at, byte(at*7+1)|1)
				turn(t, d, second, 511-at, byte(at*5+3)|2)
				wantOpen(t, "two turned", d, s)
			}
		}
	}
}

// P6.5: what was turned so that it is whole again is open, if two copies are so, and their Sequence is greater.
func TestTurnedAndWholeAgain(t *testing.T) {
	d, s := written(t)
	other := next(s, 8)
	was, is := laid(s), laid(other)
	for number := range 2 {
		wantOpen(t, "so far", d, s)
		for at := range 512 {
			turn(t, d, number, at, was[at]^is[at])
		}
	}
	wantOpen(t, "two whole again", d, other)
}

// P6.6: what was written on a disk is read as it was.
func TestWrittenAndReadAsItWas(t *testing.T) {
	for _, s := range supers() {
		d := formatted(t, least())
		wantWrite(t, "on a disk", d, s, 2)
		s.Sequence = 2
		wantOpen(t, "on a disk", d, s)
		for number := range 4 {
			b, e := d.Read(2*number, 2)
			ok(t, "Read", e)
			if got, e := superblock.Read(b); e != api.OK || !same(got, s) || !bytes.Equal(b, laid(s)) {
				t.Errorf("the copy %d: %+v, %v", number, got, e)
			}
		}
	}
}
