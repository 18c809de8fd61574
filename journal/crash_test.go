package journal_test

import (
	"bytes"
	"encoding/binary"
	"fmt"
	"slices"
	"testing"

	"exchequer/api"
	"exchequer/disk"
	"exchequer/journal"
)

// crashes are all ways in which a disk of loose sectors may crash: any of them kept, and any one of these torn, or none.
func crashes(t testing.TB, d *disk.Disk, each func(*disk.Disk)) {
	t.Helper()
	loose := len(d.Loose())
	for set := range 1 << loose {
		keeps := make([]bool, loose)
		stay := 0
		for i := range keeps {
			keeps[i] = set>>i&1 == 1
			if keeps[i] {
				stay++
			}
		}
		for tear := -1; tear < stay; tear++ {
			c := d.Clone()
			ok(t, "Crash", c.Crash(keeps, tear))
			each(c)
		}
	}
}

// stops lets a call of a disk's journal be broken off behind each count of changes, up to all of them, and the disk crash in all ways behind that; each is told how many there were and whether the call was done.
func stops(t testing.TB, d *disk.Disk, call func(*journal.Journal) api.Errno, each func(c *disk.Disk, stop int, done bool)) {
	t.Helper()
	for stop, done := 0, false; !done; stop++ {
		x := d.Clone()
		j := opened(t, x)
		fuse(t, x, stop)
		e := call(j)
		done = e == api.OK
		if !done {
			want(t, "a fuse", e, api.ErrBroken)
		}
		crashes(t, x, func(c *disk.Disk) { each(c, stop, done) })
	}
}

// name tells disks apart by what they have.
func name(t testing.TB, d *disk.Disk) string {
	t.Helper()
	b, e := d.Read(0, d.Sectors())
	ok(t, "Read", e)
	return string(b)
}

// wantOthers wants all slots but some to be as they were, with what they had.
func wantOthers(t testing.TB, what string, j *journal.Journal, ring []piece, but ...int) {
	t.Helper()
	for n, s := range j.Slots() {
		if slices.Contains(but, n) {
			continue
		}
		if s != ring[n].s {
			t.Fatalf("%s: the slot %d is %v, but was %v", what, n, s, ring[n].s)
		}
		if s.State == api.Have {
			wantGet(t, what+", another slot", j, ring[n].m)
		}
	}
}

// headOf tells of which op and view a piece's header is (0: it is none of a prepare, or not whole), by the places of chapter 4.
func headOf(p piece) (op, view int) {
	b := bytes.Clone(p.head)
	put(b, b[16:])
	if !bytes.Equal(b, p.head) || b[32] != api.Prepare {
		return 0, 0
	}
	return int(binary.LittleEndian.Uint32(b[52:])), int(binary.LittleEndian.Uint32(b[44:]))
}

// wantPut wants a slot in which a Put was broken off to have what was put, or what was there, or to say that it has not what was there.
func wantPut(t testing.TB, what string, j *journal.Journal, m api.Message, was piece, stop int, done bool) {
	t.Helper()
	op, view := headOf(was)
	s := j.Slots()[slotOf(m.H.Op)]
	switch {
	case s == have(m.H.Op, m.H.View) || s == mend(m.H.Op, m.H.View) && !done:
		// Another one of that op and view may have been there.
		if got, e := j.Get(s.Op); e != api.OK || !same(got, m) && (stop > 1 || !same(got, was.m)) {
			t.Fatalf("%s: Get(%d): %+v, %v", what, s.Op, got.H, e)
		}
	case done:
		t.Fatalf("%s: put, but %v", what, s)
	case op > 0 && s == faulty(op, view):
		refuseGet(t, what, j, op, api.ErrFaulty)
	case stop > 1:
		t.Fatalf("%s: the prepare was flushed, but %v", what, s)
	case s == was.s:
		wantLike(t, what, j, was)
	case op == 0 && (s == torn || s == unknown || s == empty && was.s == torn):
		refuseGet(t, what, j, m.H.Op, api.ErrMissing)
	default:
		t.Fatalf("%s: the slot is %v, but was %v, with a header of %d, %d", what, s, was.s, op, view)
	}
}

// wantLike wants a slot that is as it was to have what it had.
func wantLike(t testing.TB, what string, j *journal.Journal, was piece) {
	t.Helper()
	if was.s.State == api.Have {
		wantGet(t, what, j, was.m)
	}
}

// P8.5: a crash ahead of, between and behind the changes of a Put, over whatever may stand in the slot.
func TestCrashesOfPut(t *testing.T) {
	t.Parallel()
	ring := mends(2, 11)
	for _, n := range []int{0, 15} {
		for _, was := range pieces(n) {
			ring[n] = was
			d := having(t, ring)
			for _, m := range []api.Message{prepare(n+16, 3, 0), prepare(n+32, 2, 300), full(n+48, 1024), prepare(n+32, 2, 0)} {
				// No sector of it is like one that is there: it might make that whole again.
				spoil(m.Body)
				call := func(j *journal.Journal) api.Errno { return j.Put(m) }
				stops(t, d, call, func(c *disk.Disk, stop int, done bool) {
					what := fmt.Sprintf("Put of %d over %s, a fuse of %d", m.H.Op, was.name, stop)
					j := opened(t, c)
					wantOthers(t, what, j, ring, n)
					wantPut(t, what, j, m, was, stop, done)
				})
			}
		}
	}
}

// P8.5: Puts into one slot, one behind the other, each of which crashes, mended between them or not: the slot has one of them, or tells that it has not what was there; and never one that is older than what was there whole.
func TestCrashesBehindCrashes(t *testing.T) {
	t.Parallel()
	ring := mends(4)
	ring[1] = pieces(1)[0]
	neighbours := slices.Clone(ring)
	states := []*disk.Disk{having(t, ring)}
	var puts []api.Message
	for round, m := range []api.Message{prepare(1, 1, 400), prepare(17, 1, 0), prepare(17, 2, 1024)} {
		puts = append(puts, m)
		var behind []*disk.Disk
		there := map[string]int{}
		for _, d := range states {
			was := opened(t, d).Slots()[1]
			call := func(j *journal.Journal) api.Errno {
				if round%2 == 1 {
					if e := j.Mend(); e != api.OK {
						return e
					}
				}
				return j.Put(m)
			}
			stops(t, d, call, func(c *disk.Disk, stop int, done bool) {
				j := opened(t, c)
				s := j.Slots()[1]
				older := s.Op < was.Op || s.Op == was.Op && s.View < was.View
				if done && s != have(m.H.Op, m.H.View) || s == unknown || s.State == api.Have && older {
					t.Fatalf("round %d, a fuse of %d: %v, but was %v", round, stop, s, was)
				}
				if got, e := j.Get(s.Op); s.State == api.Have && (e != api.OK || !slices.ContainsFunc(puts, func(x api.Message) bool { return same(got, x) })) {
					t.Fatalf("round %d: %v is none of what was put", round, s)
				}
				neighbours[4].s = j.Slots()[4]
				if neighbours[4].s != ring[4].s && neighbours[4].s != mended(stateOf(ring))[4] {
					t.Fatalf("round %d: the slot 4 is %v", round, neighbours[4].s)
				}
				wantOthers(t, "crashes behind crashes", j, neighbours, 1)
				if k := name(t, c); there[k] == 0 {
					there[k]++
					behind = append(behind, c)
				}
			})
		}
		states = behind
	}
	if len(states) < 100 {
		t.Errorf("%d states: the crashes are too much alike", len(states))
	}
}

// P8.5: a crash in a Mend: all that was there is there; what was mended is so.
func TestCrashesOfMend(t *testing.T) {
	for _, ring := range [][]piece{mends(6), mends(0, 3, 9, 15), mends(1, 2, 3, 4, 5, 6)} {
		d := having(t, ring)
		stops(t, d, (*journal.Journal).Mend, func(c *disk.Disk, stop int, done bool) {
			j := opened(t, c)
			after := mended(stateOf(ring))
			if done {
				wantSlots(t, "mended", j, after)
			}
			for n, s := range j.Slots() {
				if s != ring[n].s && s != after[n] {
					t.Fatalf("a fuse of %d: the slot %d is %v, but was %v", stop, n, s, ring[n].s)
				}
				wantLike(t, "Mend", j, ring[n])
			}
		})
	}
}

// cutRings are rings of which two slots are to be cut at 30, each pair of another kind, beside what is to stay.
func cutRings() [][]piece {
	var l [][]piece
	for _, pair := range [][2]int{{6, 8}, {14, 10}, {5, 13}} {
		ring := make([]piece, 16)
		for n := range ring {
			ring[n] = pieces(n)[[]int{4, 0, 1, 4, 2}[n%5]]
		}
		ring[3], ring[9] = pieces(3)[pair[0]], pieces(9)[pair[1]]
		l = append(l, ring)
	}
	return l
}

// wantCut wants a slot of which a Cut was broken off to be cut, or to be known as it was, or not at all.
func wantCut(t testing.TB, j *journal.Journal, was piece, n, stop, heads int) {
	t.Helper()
	s := j.Slots()[n]
	switch {
	case s == was.s, s.State == api.Have && s == mend(was.s.Op, was.s.View):
		if s.State == api.Have {
			wantGet(t, "a Cut", j, was.m)
		}
		if stop > heads && s.State == api.Faulty {
			t.Fatalf("a fuse of %d: the slot %d is %v, though its header was cut", stop, n, s)
		}
	case s == empty || s == torn:
		refuseGet(t, "a Cut", j, was.s.Op, api.ErrMissing)
	// What an older header beside it, or an older prepare, says was put once.
	case s.Op > 0 && s.Op < was.s.Op, s == unknown && stop <= heads:
		refuseGet(t, "a Cut", j, was.s.Op, api.ErrMissing)
	default:
		t.Fatalf("a fuse of %d: the slot %d is %v, but was %v", stop, n, s, was.s)
	}
}

// P8.5: a crash in a Cut: what was not to be cut is there; behind the Cut what was cut is not known, in whatever crash.
func TestCrashesOfCut(t *testing.T) {
	t.Parallel()
	for _, ring := range cutRings() {
		d := having(t, ring)
		call := func(j *journal.Journal) api.Errno { return j.Cut(30) }
		stops(t, d, call, func(c *disk.Disk, stop int, done bool) {
			j := opened(t, c)
			wantOthers(t, "a Cut", j, ring, 3, 9)
			if done {
				wantSlots(t, "cut", j, cut(stateOf(ring), 30))
				return
			}
			wantCut(t, j, ring[3], 3, stop, 2)
			wantCut(t, j, ring[9], 9, stop, 2)
		})
	}
}

// P8.5: a Cut that crashed, cut anew: nothing of it is left, whatever the crash left of it.
func TestCutBehindACrash(t *testing.T) {
	m := prepare(35, 2, 300)
	d := formatted(t)
	ok(t, "Put", opened(t, d).Put(prepare(19, 2, 1024)))
	ok(t, "Put", opened(t, d).Put(m))
	ok(t, "Put", opened(t, d).Put(prepare(20, 2, 1024)))
	after := empties()
	after[4] = have(20, 2)
	stops(t, d, func(j *journal.Journal) api.Errno { return j.Cut(20) }, func(c *disk.Disk, stop int, done bool) {
		j := opened(t, c)
		ok(t, "Cut", j.Cut(20))
		refuseGet(t, "cut anew", j, 35, api.ErrMissing)
		refuseGet(t, "cut anew", opened(t, c), 35, api.ErrMissing)
		if s := j.Slots(); !slices.Equal(s, after) && s[3] != torn {
			t.Fatalf("a fuse of %d, cut anew: %v", stop, s)
		}
		ok(t, "Put", j.Put(m))
		wantGet(t, "put behind it", opened(t, c), m)
		wantGet(t, "put behind it", opened(t, c), prepare(20, 2, 1024))
	})
}

// P8.5: a log that is longer than the ring, a crash in each Put of it: the 15 ops ahead are got, and what was being put is, or is not known, or is Faulty as what it takes the place of.
func TestCrashesOfALog(t *testing.T) {
	d := formatted(t)
	j := opened(t, d)
	last := 40
	for op := 1; op <= last; op++ {
		m := prepare(op, op/7, op*97%1025)
		for stop := range 5 {
			x := d.Clone()
			k := opened(t, x)
			fuse(t, x, stop)
			k.Put(m)
			loose := len(x.Loose())
			for _, keeps := range [][]bool{nil, yes(loose), {true, false, true}, {false, true, true, false, true}} {
				for tear := range 3 {
					c := x.Clone()
					ok(t, "Crash", c.Crash(keeps, tear))
					k := opened(t, c)
					for at := max(1, op-15); at < op; at++ {
						wantGet(t, "ahead of a crash", k, prepare(at, at/7, at*97%1025))
					}
					s := k.Slots()[op%16]
					got, e := k.Get(op)
					switch {
					case e == api.OK && same(got, m):
					case stop < 2 && e == api.ErrMissing && (op <= 16 && (s == empty || s == torn) || op > 16 && s.Op == op-16):
					default:
						t.Fatalf("op %d, a fuse of %d: %v, %v", op, stop, s, e)
					}
				}
			}
		}
		ok(t, "Put", j.Put(m))
	}
}

// P8.5: a crash in a Format of a new disk: what is formatted behind it is empty.
func TestFormatBehindACrash(t *testing.T) {
	for stop := range 3 {
		for _, tear := range []int{-1, 0, 9, 90} {
			for step := 1; step < 8; step++ {
				d := made(t, sectors)
				fuse(t, d, stop)
				want(t, "Format", journal.Format(d), api.ErrBroken)
				keeps := make([]bool, sectors)
				for i := 0; i < len(keeps); i += step {
					keeps[i] = true
				}
				ok(t, "Crash", d.Crash(keeps, tear))
				for _, s := range opened(t, d).Slots() {
					if s != empty && s != unknown {
						t.Errorf("a crash in a Format: %v", s)
					}
				}
				ok(t, "Format", journal.Format(d))
				wantSlots(t, "formatted behind a crash", opened(t, d), empties())
			}
		}
	}
}
