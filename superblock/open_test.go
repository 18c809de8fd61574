package superblock_test

import (
	"bytes"
	"slices"
	"testing"

	"exchequer/api"
	"exchequer/disk"
	"exchequer/superblock"
)

// made is a new disk.
func made(t testing.TB, sectors int) *disk.Disk {
	t.Helper()
	d, e := disk.New(sectors)
	ok(t, "New", e)
	return d
}

// formatted is a disk of 8 sectors whose four copies are a superblock, whatever its Sequence.
func formatted(t testing.TB, s api.Super) *disk.Disk {
	t.Helper()
	return having(t, laid(s), laid(s), laid(s), laid(s))
}

// having is a disk of 8 sectors whose copies have these bytes, and are safe.
func having(t testing.TB, copies ...[]byte) *disk.Disk {
	t.Helper()
	d := made(t, 8)
	ok(t, "Write", d.Write(0, slices.Concat(copies...)))
	ok(t, "Flush", d.Flush())
	return d
}

// blow lets a disk go out.
func blow(t testing.TB, d *disk.Disk) {
	t.Helper()
	ok(t, "Fuse", disk.Fuse([]*disk.Disk{d}, 0))
	want(t, "Flush at a fuse of none", d.Flush(), api.ErrBroken)
}

// yes is a list of as many that are true.
func yes(count int) []bool { return slices.Repeat([]bool{true}, count) }

// seen is all that calls can tell of a disk but its fuse, told by clones where telling would change it.
type seen struct {
	ops      int
	up       bool
	loose    []int
	now, old []byte
}

func look(t testing.TB, d *disk.Disk) seen {
	t.Helper()
	s := seen{ops: d.Ops(), up: d.Up(), loose: d.Loose()}
	kept, lost := d.Clone(), d.Clone()
	ok(t, "Crash", kept.Crash(yes(d.Sectors()), -1))
	ok(t, "Crash", lost.Crash(nil, -1))
	var e api.Errno
	s.now, e = kept.Read(0, d.Sectors())
	ok(t, "Read", e)
	s.old, e = lost.Read(0, d.Sectors())
	ok(t, "Read", e)
	return s
}

// wantSame wants two looks to have seen the same.
func wantSame(t testing.TB, what string, got, want seen) {
	t.Helper()
	if got.ops != want.ops || got.up != want.up || !slices.Equal(got.loose, want.loose) {
		t.Errorf("%s: %d changes, up %v, loose %v, want %d, %v, %v", what, got.ops, got.up, got.loose, want.ops, want.up, want.loose)
	}
	if !bytes.Equal(got.now, want.now) {
		t.Errorf("%s: the sectors are not as they must be", what)
	}
	if !bytes.Equal(got.old, want.old) {
		t.Errorf("%s: what the sectors were is not as it must be", what)
	}
}

// wantOpen wants a superblock to be open.
func wantOpen(t testing.TB, what string, d *disk.Disk, s api.Super) {
	t.Helper()
	if got, e := superblock.Open(d); e != api.OK || !same(got, s) {
		t.Errorf("%s: Open: %+v, %v, want %+v", what, got, e, s)
	}
}

// wantShut wants Open to answer an error, with zero values beside it.
func wantShut(t testing.TB, what string, d *disk.Disk, want api.Errno) {
	t.Helper()
	if got, e := superblock.Open(d); e != want || !same(got, api.Super{}) {
		t.Errorf("%s: Open: %+v, %v, want %v", what, got, e, want)
	}
}

// piece is what a copy may have: its bytes, and, if it is whole, the superblock that they are.
type piece struct {
	b     []byte
	whole bool
	s     api.Super
}

// pieces are what copies may have: superblocks of several Sequences, unlike ones of one, and what is none.
func pieces() []piece {
	var l []piece
	for _, s := range []api.Super{
		{Sequence: 4, N: 3, View: 7, Heads: heads(3, 1)},
		{Sequence: 5, N: 3, View: 8, Heads: heads(32, 2)},
		{Sequence: 5, N: 3, View: 9, Heads: heads(32, 3), Fetching: true},
		{Sequence: most - 1, N: 7, Me: 6},
	} {
		l = append(l, piece{laid(s), true, s})
	}
	turned := laid(l[3].s)
	turned[300] ^= 1
	wrong := laid(api.Super{Sequence: most + 1, N: 3})
	return append(l, piece{b: turned}, piece{b: wrong}, piece{b: make([]byte, 512)})
}

// fours are all ways in which four copies may be pieces, of 0 up to count.
func fours(count int) [][4]int {
	var l [][4]int
	for i := range count * count * count * count {
		l = append(l, [4]int{i % count, i / count % count, i / count / count % count, i / count / count / count})
	}
	return l
}

// open is what is open, by the chapter's words: the number of the first copy that has it, or -1.
func open(copies []piece) int {
	best := -1
	for i, c := range copies {
		votes := 0
		for _, o := range copies {
			if bytes.Equal(o.b, c.b) {
				votes++
			}
		}
		if c.whole && votes >= 2 && (best < 0 || c.s.Sequence > copies[best].s.Sequence) {
			best = i
		}
	}
	return best
}

// four are four copies, and the disk that has them.
func four(t testing.TB, which [4]int) ([]piece, *disk.Disk) {
	t.Helper()
	all := pieces()
	var copies []piece
	for _, i := range which {
		copies = append(copies, all[i])
	}
	return copies, having(t, copies[0].b, copies[1].b, copies[2].b, copies[3].b)
}

// P6.2: what is open, of all ways in which four copies may be.
func TestOpen(t *testing.T) {
	for _, which := range fours(len(pieces())) {
		copies, d := four(t, which)
		was := look(t, d)
		got, e := superblock.Open(d)
		if at := open(copies); at < 0 && (e != api.ErrQuorum || !same(got, api.Super{})) || at >= 0 && (e != api.OK || !same(got, copies[at].s)) {
			t.Errorf("%v: %+v, %v, want the copy %d", which, got, e, at)
		}
		wantSame(t, "Open", look(t, d), was)
	}
}

// P6.2: a Sequence that is greater counts for more than a place, or than more copies; but two copies must have it.
func TestOpenOfUnlikeCopies(t *testing.T) {
	all := pieces()
	early, later, other := all[0], all[1], all[2]
	for _, x := range []struct {
		what   string
		copies []piece
		want   api.Super
	}{
		{"two and two, the greater one first", []piece{later, later, early, early}, later.s},
		{"two and two, the greater one last", []piece{early, early, later, later}, later.s},
		{"two and two, in turn", []piece{early, later, early, later}, later.s},
		{"three and one", []piece{early, early, early, later}, early.s},
		{"one and three", []piece{later, early, early, early}, early.s},
		{"unlike ones of one Sequence", []piece{later, later, other, other}, later.s},
		{"the same, the other way round", []piece{other, other, later, later}, other.s},
		{"the same, in turn", []piece{other, later, other, later}, other.s},
		{"the same, the last first", []piece{other, later, later, other}, other.s},
		{"a single one of the same Sequence ahead", []piece{other, later, later, early}, later.s},
		{"a single one of a greater Sequence ahead", []piece{all[3], early, later, early}, early.s},
		{"a turned one ahead", []piece{all[4], early, all[6], early}, early.s},
	} {
		wantOpen(t, x.what, having(t, x.copies[0].b, x.copies[1].b, x.copies[2].b, x.copies[3].b), x.want)
	}
	wantShut(t, "four unlike ones", having(t, early.b, later.b, other.b, all[3].b), api.ErrQuorum)
	wantShut(t, "four turned ones", having(t, all[4].b, all[4].b, all[4].b, all[4].b), api.ErrQuorum)
	wantShut(t, "four sealed ones that may not be", having(t, all[5].b, all[5].b, all[5].b, all[5].b), api.ErrQuorum)
	wantShut(t, "two turned alike, two unlike", having(t, all[4].b, all[4].b, early.b, later.b), api.ErrQuorum)
}

// P6.2: disks of too few sectors, of just enough and of more, of which the first eight count alone.
func TestOpenOfDisksOfMoreOrFewerSectors(t *testing.T) {
	s := full(9)
	for sectors := 1; sectors <= 12; sectors++ {
		d := made(t, sectors)
		for at := range min(4, sectors/2) {
			ok(t, "Write", d.Write(2*at, laid(s)))
		}
		if sectors < 8 {
			wantShut(t, "too few", d, api.ErrRange)
			continue
		}
		wantOpen(t, "enough", d, s)
	}
	d := made(t, 300)
	wantShut(t, "a new one", d, api.ErrQuorum)
	ok(t, "Write", d.Write(6, slices.Concat(laid(s), laid(s), laid(s))))
	wantShut(t, "one copy at its place, two behind", d, api.ErrQuorum)
	ok(t, "Write", d.Write(0, laid(s)))
	wantOpen(t, "two at their places", d, s)
	shifted := made(t, 300)
	ok(t, "Write", shifted.Write(1, slices.Concat(laid(s), laid(s), laid(s), laid(s))))
	wantShut(t, "copies that stand a sector later", shifted, api.ErrQuorum)
}

// P6.2: the order of the errors.
func TestOpenOrderOfErrors(t *testing.T) {
	for _, sectors := range []int{1, 7, 8, 20} {
		d := made(t, sectors)
		blow(t, d)
		wantShut(t, "out", d, api.ErrBroken)
	}
	d := formatted(t, least())
	blow(t, d)
	wantShut(t, "out, with a superblock", d, api.ErrBroken)
	ok(t, "Crash", d.Crash(nil, 0))
	wantOpen(t, "crashed", d, least())
	wantShut(t, "7 sectors", made(t, 7), api.ErrRange)
	wantShut(t, "8 sectors", made(t, 8), api.ErrQuorum)
}

// P6.2: Open is no change: a fuse that lets none by does not keep it off.
func TestOpenIsNoChange(t *testing.T) {
	d := formatted(t, full(4))
	ok(t, "Turn", d.Turn(0, 0, 1))
	ok(t, "Write", d.Write(2, laid(least())))
	was := look(t, d)
	ok(t, "Fuse", disk.Fuse([]*disk.Disk{d}, 0))
	wantOpen(t, "a fuse of none", d, full(4))
	wantSame(t, "Open", look(t, d), was)
}

// Rule 4: what Open answers is new memory.
func TestOpenIsNewMemory(t *testing.T) {
	d := formatted(t, full(5))
	a, e := superblock.Open(d)
	ok(t, "Open", e)
	b, _ := superblock.Open(d)
	spoil(a.Heads)
	if !same(b, full(5)) {
		t.Errorf("two answers of Open share memory: %+v", b)
	}
	wantOpen(t, "an answer was changed", d, full(5))
	ok(t, "Write", d.Write(0, make([]byte, 2048)))
	if !same(b, full(5)) {
		t.Errorf("an answer of Open has changed with the disk: %+v", b)
	}
}
