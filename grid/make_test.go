package grid_test

import (
	"bytes"
	"fmt"
	"math"
	"slices"
	"testing"

	"exchequer/api"
	"exchequer/disk"
	"exchequer/grid"
)

// P11.1: a new grid, on a disk of just as many sectors as it needs and of more: all blocks are free, nothing is wanted, the disk is as it was.
func TestNew(t *testing.T) {
	for _, blocks := range sizes() {
		for _, more := range []int{0, 1, 3, 4, 400} {
			d := newDisk(t, sectorsFor(blocks)+more)
			was := look(t, d)
			g, e := grid.New(d, blocks)
			if g == nil || e != api.OK {
				t.Fatalf("New of %d blocks, %d sectors more: %v, %v", blocks, more, g, e)
			}
			wantSet(t, "New", g, all(blocks, free))
			wantWanted(t, "New", g)
			wantSame(t, "New", look(t, d), was)
		}
	}
}

// wantNone wants New and Open of a disk to tell an error, and nothing beside it; Open of whatever is said to be free.
func wantNone(t *testing.T, what string, d *disk.Disk, blocks int, want api.Errno) {
	t.Helper()
	if g, e := grid.New(d, blocks); g != nil || e != want {
		t.Errorf("%s: New of %d blocks: %v, %v, want %v", what, blocks, g, e, want)
	}
	many := min(max(blocks, 0), 513)
	for _, b := range [][]byte{nil, {}, {1, 0, 9}, setOf(all(1, free)), setOf(all(many, free)), setOf(mixed(many, 1)), setOf(all(512, taken))} {
		if g, e := grid.Open(d, blocks, b); g != nil || e != want {
			t.Errorf("%s: Open of %d blocks: %v, %v, want %v", what, blocks, g, e, want)
		}
	}
}

// manies are counts of blocks that no grid has; some of them would be one's if what they need were cut to fewer bits.
func manies() []int {
	return []int{-1, 0, 513, -2, -26, -512, 514, 1024, 1<<16 + 1, 1 << 31, 1<<32 + 1, 1 << 60, 1 << 61, 1 << 62, 1<<62 + 1, -1 << 62, -1<<62 + 1, math.MinInt, math.MinInt + 1, math.MaxInt - 1, math.MaxInt}
}

func TestCountsOfBlocksThatMayNotBe(t *testing.T) {
	for _, sectors := range []int{1, 100, 104, 108, 2152, 65536} {
		d := newDisk(t, sectors)
		was := look(t, d)
		for _, blocks := range manies() {
			wantNone(t, fmt.Sprint(sectors, " sectors"), d, blocks, api.ErrRange)
		}
		wantSame(t, "refused", look(t, d), was)
	}
}

func TestDisksOfTooFewSectors(t *testing.T) {
	for _, blocks := range sizes() {
		for _, fewer := range []int{1, 2, 3, 4, 5} {
			wantNone(t, fmt.Sprint(fewer, " sectors fewer"), newDisk(t, sectorsFor(blocks)-fewer), blocks, api.ErrRange)
		}
		for _, sectors := range []int{1, 4 * blocks, 103, 104} {
			wantNone(t, fmt.Sprint(sectors, " sectors"), newDisk(t, min(sectors, sectorsFor(blocks)-1)), blocks, api.ErrRange)
		}
	}
}

// P11.1: none comes ahead of out, out ahead of a count of blocks that may not be and of too few sectors, and these ahead of what is free.
func TestOrderOfErrorsOfNewAndOpen(t *testing.T) {
	copied := *newDisk(t, 4000)
	for _, blocks := range append(manies(), 1, 4, 512) {
		wantNone(t, "a disk that is nil", nil, blocks, api.ErrNil)
		wantNone(t, "a disk that nobody made", new(disk.Disk), blocks, api.ErrNil)
		wantNone(t, "a copy of a disk", &copied, blocks, api.ErrNil)
		for _, sectors := range []int{1, 107, 108, 4000} {
			d := newDisk(t, sectors)
			blow(t, d)
			was := look(t, d)
			wantNone(t, "a disk that is out", d, blocks, api.ErrBroken)
			wantSame(t, "a disk that is out", look(t, d), was)
		}
	}
	d := newDisk(t, 108)
	blow(t, d)
	wantNone(t, "out", d, 1, api.ErrBroken)
	ok(t, "Crash", d.Crash(nil, 0))
	if _, e := grid.New(d, 1); e != api.OK {
		t.Errorf("a disk that is not out any more: %v", e)
	}
}

// P11.1: a fuse does not hinder a grid from being made, and is not used up by it.
func TestMadeAtAFuseOfNone(t *testing.T) {
	d := newDisk(t, 120)
	fuse(t, d, 0)
	if _, e := grid.New(d, 4); e != api.OK {
		t.Error(e)
	}
	if _, e := grid.Open(d, 4, setOf(mixed(4, 1))); e != api.OK {
		t.Error(e)
	}
	if !d.Up() || d.Ops() != 0 {
		t.Errorf("up %v, %d changes", d.Up(), d.Ops())
	}
}

func TestOpen(t *testing.T) {
	for _, blocks := range sizes() {
		for _, hows := range sets(blocks) {
			d := newDisk(t, sectorsFor(blocks))
			was := look(t, d)
			room := append(setOf(hows), 1, 2, 3)
			b := room[:len(room)-3]
			g, e := grid.Open(d, blocks, b)
			if g == nil || e != api.OK {
				t.Fatalf("Open: %v, %v", g, e)
			}
			if !bytes.Equal(room, append(setOf(hows), 1, 2, 3)) {
				t.Error("Open has changed what it was handed")
			}
			spoil(room)
			wantSet(t, "Open", g, hows)
			wantWanted(t, "Open", g)
			wantSame(t, "Open", look(t, d), was)
		}
	}
}

// wrongSets are bytes that are of no set of so many blocks.
func wrongSets(blocks int) [][]byte {
	l := [][]byte{nil, {}, {0}, {0, 0}, {0, 0, 0}, {byte(blocks)}, {byte(blocks), byte(blocks >> 8)}}
	for _, other := range []int{0, 1, 2, 3, 4, 5, blocks - 1, blocks + 1, blocks + 4, blocks ^ 256, 511, 512, 513} {
		if other >= 0 && other != blocks {
			l = append(l, setOf(all(other, free)), setOf(all(other, taken)))
		}
	}
	right := setOf(mixed(blocks, 1))
	l = append(l, right[:len(right)-1], append(bytes.Clone(right), 0), append(bytes.Clone(right), right...), right[2:])
	for _, at := range []int{0, blocks / 2, blocks - 1} {
		hows := mixed(blocks, 1)
		hows[at] = 3
		l = append(l, setOf(hows))
	}
	for at := blocks; at%4 != 0; at++ {
		b := bytes.Clone(right)
		b[len(b)-1] |= 1 << (at % 4 * 2)
		l = append(l, b)
	}
	return l
}

func TestOpenAndResetRefuseBytes(t *testing.T) {
	for _, blocks := range sizes() {
		g, d := fresh(t, blocks)
		refuseRead(t, "nothing there", g, ref(1, 3), api.ErrFaulty)
		ok(t, "Reset", g.Reset(setOf(mixed(blocks, 5))))
		was := look(t, d)
		for _, b := range wrongSets(blocks) {
			if x, e := grid.Open(d, blocks, b); x != nil || e != api.ErrBytes {
				t.Errorf("Open of %d blocks, %v: %v, %v", blocks, b, x, e)
			}
			want(t, fmt.Sprint("Reset of ", blocks, " blocks, ", b), g.Reset(b), api.ErrBytes)
		}
		wantSet(t, "refused", g, mixed(blocks, 5))
		wantWanted(t, "refused", g, ref(1, 3))
		wantSame(t, "refused", look(t, d), was)
	}
}

func TestReset(t *testing.T) {
	for _, blocks := range sizes() {
		g, d := fresh(t, blocks)
		refuseRead(t, "nothing there", g, ref(1, 3), api.ErrFaulty)
		was := look(t, d)
		for _, hows := range append(sets(blocks), sets(blocks)...) {
			room := append(setOf(hows), 1, 2, 3)
			ok(t, "Reset", g.Reset(room[:len(room)-3]))
			if !bytes.Equal(room, append(setOf(hows), 1, 2, 3)) {
				t.Error("Reset has changed what it was handed")
			}
			spoil(room)
			wantSet(t, "Reset", g, hows)
		}
		wantWanted(t, "what is wanted stays so", g, ref(1, 3))
		wantSame(t, "Reset", look(t, d), was)
	}
}

// P11.1: a grid that is reset to its own set is as it was, and to that of another time as it was then: its blocks are written anew.
func TestResetToAnEarlierSet(t *testing.T) {
	g, _ := fresh(t, 4)
	wrote(t, g, of(ref(1, 5), 0, 10))
	early := g.Free()
	wrote(t, g, of(ref(2, 5), 0, 10))
	ok(t, "Release", g.Release(ref(1, 5)))
	ok(t, "Reset", g.Reset(g.Free()))
	wantSet(t, "its own", g, []int{letGo, taken, free, free})
	ok(t, "Reset", g.Reset(early))
	wantSet(t, "an earlier one", g, []int{taken, free, free, free})
	wantRead(t, "a block that is free now", g, of(ref(2, 5), 0, 10))
	wrote(t, g, of(ref(2, 6), 1, 20))
	wantRead(t, "written anew", g, of(ref(2, 6), 1, 20))
	wantRead(t, "another one", g, of(ref(1, 5), 0, 10))
}

// P11.1: Settle frees what was let go, and tells how many.
func TestSettle(t *testing.T) {
	for _, blocks := range sizes() {
		for _, hows := range sets(blocks) {
			d := newDisk(t, sectorsFor(blocks))
			g := opened(t, d, hows)
			after, gone := slices.Clone(hows), 0
			for i, how := range hows {
				if how == letGo {
					after[i] = free
					gone++
				}
			}
			for _, n := range []int{gone, 0, 0} {
				if got := g.Settle(); got != n {
					t.Errorf("Settle: %d, want %d", got, n)
				}
				wantSet(t, "settled", g, after)
			}
			if d.Ops() != 0 {
				t.Error("Settle has changed the disk")
			}
		}
	}
}

// P11.1, P11.2: what does not name the disk does not need it: it is done of a disk that is out as well.
func TestOfADiskThatIsOut(t *testing.T) {
	d := newDisk(t, 124)
	g := opened(t, d, []int{taken, taken, free, letGo, taken})
	refuseRead(t, "nothing there", g, ref(2, 2), api.ErrFaulty)
	blow(t, d)
	was := look(t, d)
	wantSet(t, "out", g, []int{taken, taken, free, letGo, taken})
	wantWanted(t, "out", g, ref(2, 2))
	ok(t, "Release", g.Release(ref(1, 9)))
	want(t, "Release", g.Release(ref(1, 9)), api.ErrState)
	want(t, "Release", g.Release(ref(6, 9)), api.ErrRange)
	if n := g.Settle(); n != 2 {
		t.Errorf("Settle: %d", n)
	}
	wantSet(t, "out, settled", g, []int{free, taken, free, free, taken})
	want(t, "Reset", g.Reset([]byte{5, 0}), api.ErrBytes)
	ok(t, "Reset", g.Reset(setOf([]int{free, free, letGo, free, taken})))
	wantSet(t, "out, reset", g, []int{free, free, letGo, free, taken})
	wantSame(t, "out", look(t, d), was)
}

// P11.1: the disk is that very one: what is done to it is seen by the grid, and by each other grid of it, and what the grid does is seen at it.
func TestThatVeryDisk(t *testing.T) {
	g, d := fresh(t, 4)
	o := opened(t, d, []int{taken, free, free, free})
	b := of(ref(1, 7), 2, 80)
	wrote(t, g, b)
	wantRead(t, "another grid's", o, b)
	wrote(t, o, of(ref(2, 8), 0, 3))
	wantRead(t, "another grid's", g, of(ref(2, 8), 0, 3))
	wantSet(t, "a set of its own", g, []int{taken, free, free, free})
	ok(t, "Turn", d.Turn(104, 0, 1))
	refuseRead(t, "turned", g, b.Ref, api.ErrFaulty)
	wantWanted(t, "wants of its own", o)
	lay(t, d, b)
	wantRead(t, "written behind its back", g, b)
	c := d.Clone()
	wrote(t, g, of(ref(2, 9), 0, 3))
	x, e := c.Read(placeOf(2), 4)
	if e != api.OK || !bytes.Equal(x, laid(of(ref(2, 8), 0, 3))) {
		t.Error("a clone of the disk has changed")
	}
	ok(t, "disk.Fuse", disk.Fuse([]*disk.Disk{c}, 0))
	want(t, "a clone's", c.Flush(), api.ErrBroken)
	ok(t, "Flush", g.Flush())
}

// P11.1: what Free and Wanted answer is new memory each time, with its spare room.
func TestFreeAndWantedAreNewMemory(t *testing.T) {
	g := opened(t, newDisk(t, 2200), mixed(65, 3))
	wanted := []api.Ref{ref(3, 1), ref(1, 0), ref(65, most)}
	for range 3 {
		for _, r := range wanted {
			refuseRead(t, "nothing there", g, r, api.ErrFaulty)
		}
		a, b := g.Free(), g.Free()
		spoil(a)
		if !bytes.Equal(b, setOf(mixed(65, 3))) {
			t.Error("two answers of Free share memory")
		}
		l, m := g.Wanted(), g.Wanted()
		spoilRefs(l)
		if !slices.Equal(m, wanted) {
			t.Error("two answers of Wanted share memory")
		}
		wantSet(t, "an answer was changed", g, mixed(65, 3))
		wantWanted(t, "an answer was changed", g, wanted...)
	}
	// Spare room that was handed out must not be what comes to be wanted later.
	l := g.Wanted()
	refuseRead(t, "nothing there", g, ref(2, 2), api.ErrFaulty)
	spoilRefs(l)
	wantWanted(t, "an older answer was changed", g, append(wanted, ref(2, 2))...)
}
