package disk_test

import (
	"bytes"
	"slices"
	"testing"

	"exchequer/api"
	"exchequer/disk"
)

// P5.4: what was flushed is there behind each crash that may be; what was written since is new, old, or, of one alone, half of each.
func TestWhatWasFlushedIsThere(t *testing.T) {
	const sectors = 6
	flushed, written := some(sectors, 1), some(sectors, 2)
	loose := []int{0, 2, 3, 5}
	for set := range 1 << len(loose) {
		for tear := -1; tear <= len(loose); tear++ {
			d := made(t, sectors)
			ok(t, "Write", d.Write(0, flushed))
			ok(t, "Flush", d.Flush())
			keeps := make([]bool, len(loose))
			for i, at := range loose {
				ok(t, "Write", d.Write(at, written[at*256:][:256]))
				keeps[i] = set>>i&1 == 1
			}
			ok(t, "Crash", d.Crash(keeps, tear))
			is := slices.Clone(flushed)
			stay := 0
			for i, at := range loose {
				if !keeps[i] {
					continue
				}
				count := 256
				if stay == tear {
					count = 128
				}
				copy(is[at*256:][:count], written[at*256:])
				stay++
			}
			wantRead(t, "a crash", d, 0, is)
		}
	}
}

// P5.4: all disks of a fuse together make just as many changes as it says.
func TestAFuseLetsJustAsManyBy(t *testing.T) {
	for count := 1; count <= 4; count++ {
		for n := range 12 {
			l := disks(t, count)
			fuse(t, n, l...)
			done := 0
			for i := range n + 7 {
				d := l[i*i%count]
				e := api.OK
				if i%3 == 0 {
					e = d.Flush()
				} else {
					e = d.Write(i%2, some(1, i))
				}
				if e == api.OK {
					done++
				}
				if (e == api.OK) != (i < n) {
					t.Errorf("%d disks, fuse of %d, change %d: %v", count, n, i, e)
				}
			}
			ops := 0
			for _, d := range l {
				ops += d.Ops()
				wantUp(t, "a fuse that is blown", d, false)
			}
			if done != n || ops != n {
				t.Errorf("%d disks, fuse of %d: %d changes, and they count %d", count, n, done, ops)
			}
		}
	}
}

func TestExamples(t *testing.T) {
	d := made(t, 4)
	a, b := full(1), full(2)
	want(t, "Write(0, a)", d.Write(0, a), api.OK)
	want(t, "Write(1, a b)", d.Write(1, append(slices.Clone(a), b...)), api.OK)
	wantLoose(t, "written", d, 0, 1, 2)
	want(t, "Flush", d.Flush(), api.OK)
	wantLoose(t, "flushed", d)

	want(t, "Write(0, b)", d.Write(0, b), api.OK)
	want(t, "Write(3, b)", d.Write(3, b), api.OK)
	want(t, "Crash(false true, 9)", d.Crash([]bool{false, true}, 9), api.OK)
	wantRead(t, "crashed", d, 0, full(1, 1, 2, 2))

	want(t, "Write(0, b)", d.Write(0, b), api.OK)
	want(t, "Crash(true, 0)", d.Crash([]bool{true}, 0), api.OK)
	wantRead(t, "torn", d, 0, half(2, 1))

	want(t, "Write(4, a)", d.Write(4, a), api.ErrRange)
	want(t, "Write(0, 3 bytes)", d.Write(0, a[:3]), api.ErrArg)
	if got, e := d.Read(3, 2); len(got) != 0 || e != api.ErrRange {
		t.Errorf("Read(3, 2): %d bytes, %v", len(got), e)
	}
	want(t, "Turn(0, 256, 1)", d.Turn(0, 256, 1), api.ErrRange)

	o := made(t, 1)
	want(t, "Fuse", disk.Fuse([]*disk.Disk{d, o}, 1), api.OK)
	want(t, "Write(0, a)", d.Write(0, a), api.OK)
	want(t, "Flush", d.Flush(), api.ErrBroken)
	wantUp(t, "blown", d, false)
	want(t, "the other one's Flush", o.Flush(), api.ErrBroken)
	want(t, "Crash(none, 0)", d.Crash(nil, 0), api.OK)
	wantUp(t, "crashed", d, true)
}

// plain is a disk by the chapter's words, told in the plainest way: two whole pictures of it, and a mark at each sector that is loose.
type plain struct {
	now, old []byte
	loose    []bool
	ops      int
	out      bool
	fuse     *int
}

func plainOf(sectors int) *plain {
	return &plain{now: make([]byte, sectors*256), old: make([]byte, sectors*256), loose: make([]bool, sectors)}
}

func (p *plain) clone() *plain {
	return &plain{now: slices.Clone(p.now), old: slices.Clone(p.old), loose: slices.Clone(p.loose), ops: p.ops, out: p.out}
}

func (p *plain) settle() {
	p.old = slices.Clone(p.now)
	clear(p.loose)
}

func (p *plain) crash(keeps []bool, tear int) {
	i, stay := 0, 0
	for at := range p.loose {
		if !p.loose[at] {
			continue
		}
		now, old := p.now[at*256:][:256], p.old[at*256:][:256]
		if i < len(keeps) && keeps[i] {
			if stay == tear {
				copy(now[128:], old[128:])
			}
			stay++
		} else {
			copy(now, old)
		}
		i++
	}
	p.settle()
	p.out, p.fuse = false, nil
}

// world is some disks and what they must be; a fuse stands in the plain ones as a number that they share.
type world struct {
	disks  []*disk.Disk
	plains []*plain
}

const (
	worldDisks   = 3
	worldSectors = 6
)

func newWorld(t testing.TB) *world {
	w := &world{}
	for range worldDisks {
		w.disks = append(w.disks, made(t, worldSectors))
		w.plains = append(w.plains, plainOf(worldSectors))
	}
	return w
}

// change tells what the plain disk says to a change, and lets all disks of its fuse go out.
func (w *world) change(p *plain) api.Errno {
	if p.fuse == nil {
		p.ops++
		return api.OK
	}
	if *p.fuse > 0 {
		*p.fuse--
		p.ops++
		return api.OK
	}
	for _, q := range w.plains {
		if q.fuse == p.fuse {
			q.out = true
		}
	}
	return api.ErrBroken
}

func (w *world) write(t testing.TB, d *disk.Disk, p *plain, at, n, seed int) {
	b := some(n, seed)
	e := api.OK
	switch {
	case p.out:
		e = api.ErrBroken
	case n == 0:
		e = api.ErrArg
	case at < 0 || at+n > worldSectors:
		e = api.ErrRange
	default:
		e = w.change(p)
	}
	if e == api.OK {
		copy(p.now[at*256:], b)
		for i := range n {
			p.loose[at+i] = true
		}
	}
	want(t, "Write", d.Write(at, b), e)
}

func (w *world) flush(t testing.TB, d *disk.Disk, p *plain) {
	e := api.ErrBroken
	if !p.out {
		e = w.change(p)
	}
	if e == api.OK {
		p.settle()
	}
	want(t, "Flush", d.Flush(), e)
}

func (w *world) turn(t testing.TB, d *disk.Disk, p *plain, at, place int, mask byte) {
	e := api.ErrRange
	if at >= 0 && at < worldSectors {
		e = api.OK
		p.now[at*256+place] ^= mask
		if !p.loose[at] {
			p.old[at*256+place] ^= mask
		}
	}
	want(t, "Turn", d.Turn(at, place, mask), e)
}

// step does what four bytes say to a disk and to the plain one, and holds their answers against each other.
func (w *world) step(t testing.TB, s []byte) {
	i := int(s[1]) % worldDisks
	d, p := w.disks[i], w.plains[i]
	x, y := int(s[2]), int(s[3])
	switch s[0] % 16 {
	case 0, 1, 2, 3, 4, 5:
		w.write(t, d, p, x%(worldSectors+2)-1, y%4, x+y)
	case 6, 7, 8:
		w.flush(t, d, p)
	case 9, 10:
		w.turn(t, d, p, x%(worldSectors+2)-1, y, byte(x+1))
	case 11, 12:
		var keeps []bool
		for j := range y % 8 {
			keeps = append(keeps, x>>j&1 == 1)
		}
		tear := int(s[0])/16%5 - 1
		p.crash(keeps, tear)
		want(t, "Crash", d.Crash(keeps, tear), api.OK)
	case 13, 14:
		left := y % 6
		var l []*disk.Disk
		for j := range worldDisks {
			if x>>j&1 == 1 {
				l = append(l, w.disks[j])
				w.plains[j].fuse = &left
			}
		}
		want(t, "Fuse", disk.Fuse(l, left), api.OK)
	case 15:
		w.disks[x%worldDisks], w.plains[x%worldDisks] = d.Clone(), p.clone()
	}
}

// check holds all that can be told of the disks against the plain ones.
func (w *world) check(t testing.TB, when int) {
	t.Helper()
	for i, d := range w.disks {
		p := w.plains[i]
		s := seen{sectors: worldSectors, ops: p.ops, up: !p.out, now: p.now, old: p.old}
		for at, loose := range p.loose {
			if loose {
				s.loose = append(s.loose, at)
			}
		}
		wantSame(t, "step "+api.Errno(when).Error()+", disk "+api.Errno(i).Error(), look(t, d), s)
		b, e := d.Read(0, worldSectors)
		if p.out && (len(b) != 0 || e != api.ErrBroken) || !p.out && (e != api.OK || !bytes.Equal(b, p.now)) {
			t.Errorf("step %d, disk %d: Read: %d bytes, %v", when, i, len(b), e)
		}
	}
}

func (w *world) run(t testing.TB, script []byte) {
	t.Helper()
	for when := 0; len(script) >= 4 && !t.Failed(); when++ {
		w.step(t, script)
		w.check(t, when)
		script = script[4:]
	}
}

// script is bytes that look like chance, and are the same each time.
func script(seed uint64, steps int) []byte {
	b := make([]byte, 4*steps)
	for i := range b {
		seed = seed*6364136223846793005 + 1442695040888963407
		b[i] = byte(seed >> 56)
	}
	return b
}

func TestDisksAreAsThePlainOnes(t *testing.T) {
	for seed := range uint64(200) {
		newWorld(t).run(t, script(seed, 120))
	}
}

func FuzzDisk(f *testing.F) {
	for seed := range uint64(4) {
		f.Add(script(seed, 40))
	}
	f.Fuzz(func(t *testing.T, b []byte) {
		newWorld(t).run(t, b[:min(len(b), 800)])
	})
}
