package disk_test

import (
	"bytes"
	"math"
	"slices"
	"testing"

	"exchequer/api"
	"exchequer/disk"
)

// full is a sector of each of these bytes, one behind the other.
func full(l ...byte) []byte {
	var b []byte
	for _, c := range l {
		b = append(b, bytes.Repeat([]byte{c}, 256)...)
	}
	return b
}

// half is a sector whose first half is the one byte, and its second the other one.
func half(first, second byte) []byte {
	return append(bytes.Repeat([]byte{first}, 128), bytes.Repeat([]byte{second}, 128)...)
}

// some is sectors in which no two bytes that stand near are the same, and no two sectors.
func some(sectors, seed int) []byte {
	b := make([]byte, sectors*256)
	for i := range b {
		b[i] = byte(i*i*3 + i*31 + i/256*7 + seed*101 + 1)
	}
	return b
}

// yes is a list of as many that are true.
func yes(count int) []bool { return slices.Repeat([]bool{true}, count) }

// made is New's answer where none but OK may be.
func made(t testing.TB, sectors int) *disk.Disk {
	t.Helper()
	d, e := disk.New(sectors)
	if d == nil || e != api.OK {
		t.Fatalf("New(%d): %v", sectors, e)
	}
	return d
}

// want holds an error against that which must come.
func want(t testing.TB, what string, got, want api.Errno) {
	t.Helper()
	if got != want {
		t.Errorf("%s: %v, want %v", what, got, want)
	}
}

// ok does not go on behind an error.
func ok(t testing.TB, what string, got api.Errno) {
	t.Helper()
	if got != api.OK {
		t.Fatalf("%s: %v", what, got)
	}
}

// wantRead wants the sectors from at on to have these bytes.
func wantRead(t testing.TB, what string, d *disk.Disk, at int, b []byte) {
	t.Helper()
	got, e := d.Read(at, len(b)/256)
	if e != api.OK {
		t.Errorf("%s: Read: %v", what, e)
		return
	}
	if !bytes.Equal(got, b) {
		t.Errorf("%s: sectors from %d on are not as they must be: %s", what, at, differ(got, b))
	}
}

// differ says where bytes begin to differ.
func differ(got, want []byte) string {
	for i := range min(len(got), len(want)) {
		if got[i] != want[i] {
			return "byte " + api.Errno(i).Error() + " is " + api.Errno(got[i]).Error() + ", want " + api.Errno(want[i]).Error()
		}
	}
	return api.Errno(len(got)).Error() + " bytes, want " + api.Errno(len(want)).Error()
}

// wantLoose wants just these sectors to be loose.
func wantLoose(t testing.TB, what string, d *disk.Disk, l ...int) {
	t.Helper()
	if got := d.Loose(); !slices.Equal(got, l) {
		t.Errorf("%s: loose are %v, want %v", what, got, l)
	}
}

// wantOps wants as many changes.
func wantOps(t testing.TB, what string, d *disk.Disk, ops int) {
	t.Helper()
	if got := d.Ops(); got != ops {
		t.Errorf("%s: %d changes, want %d", what, got, ops)
	}
}

// wantUp wants a disk to be up, or not.
func wantUp(t testing.TB, what string, d *disk.Disk, up bool) {
	t.Helper()
	if got := d.Up(); got != up {
		t.Errorf("%s: up is %v, want %v", what, got, up)
	}
}

// seen is all that calls can tell of a disk but its fuse, told by clones where telling would change it.
type seen struct {
	sectors, ops int
	up           bool
	loose        []int
	now, old     []byte
}

func look(t testing.TB, d *disk.Disk) seen {
	t.Helper()
	s := seen{sectors: d.Sectors(), ops: d.Ops(), up: d.Up(), loose: d.Loose()}
	kept, lost := d.Clone(), d.Clone()
	ok(t, "Crash", kept.Crash(yes(s.sectors), -1))
	ok(t, "Crash", lost.Crash(nil, -1))
	var e api.Errno
	s.now, e = kept.Read(0, s.sectors)
	ok(t, "Read", e)
	s.old, e = lost.Read(0, s.sectors)
	ok(t, "Read", e)
	return s
}

// wantSame wants two looks to have seen the same.
func wantSame(t testing.TB, what string, got, want seen) {
	t.Helper()
	if got.sectors != want.sectors || got.ops != want.ops || got.up != want.up {
		t.Errorf("%s: %d sectors, %d changes, up %v, want %d, %d, %v", what, got.sectors, got.ops, got.up, want.sectors, want.ops, want.up)
	}
	if !slices.Equal(got.loose, want.loose) {
		t.Errorf("%s: loose are %v, want %v", what, got.loose, want.loose)
	}
	if !bytes.Equal(got.now, want.now) {
		t.Errorf("%s: what the sectors are: %s", what, differ(got.now, want.now))
	}
	if !bytes.Equal(got.old, want.old) {
		t.Errorf("%s: what the sectors were: %s", what, differ(got.old, want.old))
	}
}

// blow lets a disk go out, by a fuse of its own.
func blow(t testing.TB, d *disk.Disk) {
	t.Helper()
	ok(t, "Fuse", disk.Fuse([]*disk.Disk{d}, 0))
	want(t, "Flush at a fuse of none", d.Flush(), api.ErrBroken)
	wantUp(t, "behind it", d, false)
}

func TestNew(t *testing.T) {
	for _, sectors := range []int{1, 2, 255, 256, 65535, 65536} {
		d := made(t, sectors)
		if got := d.Sectors(); got != sectors {
			t.Errorf("New(%d): %d sectors", sectors, got)
		}
		wantRead(t, "a new disk", d, 0, make([]byte, sectors*256))
		wantLoose(t, "a new disk", d)
		wantOps(t, "a new disk", d, 0)
		wantUp(t, "a new disk", d, true)
		ok(t, "Write of the last one", d.Write(sectors-1, full(7)))
		want(t, "Write behind it", d.Write(sectors, full(7)), api.ErrRange)
	}
}

func TestNewRefuses(t *testing.T) {
	for _, sectors := range []int{math.MinInt, -65536, -1, 0, 65537, 1 << 17, 1<<32 + 1, math.MaxInt} {
		if d, e := disk.New(sectors); d != nil || e != api.ErrRange {
			t.Errorf("New(%d): %v, %v", sectors, d != nil, e)
		}
	}
}

func TestNewDisksAreApart(t *testing.T) {
	a, b := made(t, 2), made(t, 2)
	ok(t, "Write", a.Write(0, full(1, 1)))
	wantRead(t, "another disk", b, 0, full(0, 0))
	wantLoose(t, "another disk", b)
	wantOps(t, "another disk", b, 0)
}

func TestLooseIsRising(t *testing.T) {
	const sectors = 300
	d := made(t, sectors)
	var all []int
	// 107 has no divisor in common with 300, so that each sector has its turn, out of order.
	for i := range sectors {
		ok(t, "Write", d.Write(i*107%sectors, full(1)))
		all = append(all, i*107%sectors)
		slices.Sort(all)
		wantLoose(t, "out of order", d, all...)
	}
	ok(t, "Write", d.Write(5, full(2, 3)))
	wantLoose(t, "written again", d, all...)
	ok(t, "Flush", d.Flush())
	wantLoose(t, "flushed", d)
}

func TestOpsCountsChangesAlone(t *testing.T) {
	d := made(t, 4)
	ok(t, "Write", d.Write(0, full(1, 2, 3)))
	wantOps(t, "a Write of three sectors", d, 1)
	ok(t, "Flush", d.Flush())
	wantOps(t, "a Flush", d, 2)
	ok(t, "Flush", d.Flush())
	wantOps(t, "a Flush of nothing", d, 3)
	ok(t, "Write", d.Write(0, full(1)))
	wantOps(t, "a Write of what is there", d, 4)
	if _, e := d.Read(0, 4); e != api.OK {
		t.Error(e)
	}
	ok(t, "Turn", d.Turn(0, 0, 1))
	ok(t, "Fuse", disk.Fuse([]*disk.Disk{d}, 9))
	ok(t, "Crash", d.Crash(nil, 0))
	d.Clone()
	wantOps(t, "what is no change", d, 4)
	d.Write(4, full(1))
	d.Write(0, full(1)[1:])
	d.Read(3, 2)
	wantOps(t, "calls that fail", d, 4)
	blow(t, d)
	wantOps(t, "a Flush that the fuse does not let by", d, 4)
	want(t, "Write, out", d.Write(0, full(1)), api.ErrBroken)
	wantOps(t, "a Write of a disk that is out", d, 4)
}

func TestCloneIsTheSame(t *testing.T) {
	d := made(t, 6)
	ok(t, "Write", d.Write(0, some(6, 1)))
	ok(t, "Flush", d.Flush())
	ok(t, "Write", d.Write(4, some(2, 2)))
	ok(t, "Write", d.Write(1, some(1, 3)))
	ok(t, "Turn", d.Turn(4, 9, 0x81))
	ok(t, "Turn", d.Turn(0, 9, 0x18))
	was := look(t, d)
	wantSame(t, "a clone", look(t, d.Clone()), was)
	wantSame(t, "a clone of a clone", look(t, d.Clone().Clone()), was)
	blow(t, d)
	was.up = false
	wantSame(t, "a clone of a disk that is out", look(t, d.Clone()), was)
	want(t, "a Write of it", d.Clone().Write(0, full(1)), api.ErrBroken)
}

// deeds are what changes a disk, each in a way of its own.
func deeds() map[string]func(*disk.Disk) api.Errno {
	return map[string]func(*disk.Disk) api.Errno{
		"a Write of a safe sector":  func(d *disk.Disk) api.Errno { return d.Write(0, full(201)) },
		"a Write of a loose sector": func(d *disk.Disk) api.Errno { return d.Write(2, full(202)) },
		"a Write of all":            func(d *disk.Disk) api.Errno { return d.Write(0, some(4, 203)) },
		"a Flush":                   func(d *disk.Disk) api.Errno { return d.Flush() },
		"a Turn of a safe sector":   func(d *disk.Disk) api.Errno { return d.Turn(1, 3, 4) },
		"a Turn of a loose sector":  func(d *disk.Disk) api.Errno { return d.Turn(3, 3, 4) },
		"a Crash that keeps none":   func(d *disk.Disk) api.Errno { return d.Crash(nil, 0) },
		"a Crash that keeps all":    func(d *disk.Disk) api.Errno { return d.Crash(yes(2), -1) },
		"a Crash that tears one":    func(d *disk.Disk) api.Errno { return d.Crash(yes(2), 1) },
	}
}

func TestClonesAreApart(t *testing.T) {
	for what, do := range deeds() {
		d := made(t, 4)
		ok(t, "Write", d.Write(0, some(4, 1)))
		ok(t, "Flush", d.Flush())
		ok(t, "Write", d.Write(2, some(2, 2)))
		c := d.Clone()
		was := look(t, d)
		ok(t, what, do(c))
		wantSame(t, what+" of a clone, seen at what it is one of", look(t, d), was)
		c = d.Clone()
		ok(t, what, do(d))
		wantSame(t, what+", seen at a clone", look(t, c), was)
	}
}

func TestCloneHasNoFuse(t *testing.T) {
	d, o := made(t, 1), made(t, 1)
	ok(t, "Fuse", disk.Fuse([]*disk.Disk{d, o}, 2))
	c := d.Clone()
	for range 5 {
		ok(t, "a clone's Flush", c.Flush())
	}
	ok(t, "Flush", d.Flush())
	ok(t, "Flush", o.Flush())
	want(t, "the third Flush", d.Flush(), api.ErrBroken)
	wantUp(t, "the fuse's other disk", o, false)
	wantUp(t, "a clone from ahead of that", c, true)
	ok(t, "its Flush", c.Flush())
	c = d.Clone()
	wantUp(t, "a clone from behind that", c, false)
	ok(t, "Crash", d.Crash(nil, 0))
	wantUp(t, "when what it is a clone of has crashed", c, false)
	ok(t, "Crash", c.Crash(nil, 0))
	wantUp(t, "when it has crashed itself", c, true)
	wantUp(t, "the fuse's other disk", o, false)
}

func TestLooseIsNewMemory(t *testing.T) {
	d := made(t, 8)
	ok(t, "Write", d.Write(2, full(1, 2, 3)))
	l := d.Loose()
	for i := range l[:cap(l)] {
		l[:cap(l)][i] = 7
	}
	wantLoose(t, "an earlier answer was changed", d, 2, 3, 4)
}
