package grid_test

import (
	"fmt"
	"math"
	"slices"
	"testing"

	"exchequer/api"
)

// P11.2: a grid is filled: each block comes to the lowest free place, by one Write of its bytes, loose, and is taken; then the grid is full.
func TestWrite(t *testing.T) {
	for _, blocks := range []int{1, 2, 5, 30} {
		g, d := fresh(t, blocks)
		hows := all(blocks, free)
		for i := range blocks {
			ok(t, "Flush", g.Flush())
			b := like(i, ref(i+1, []int{0, 1, most, 77}[i%4]))
			was := look(t, d)
			wrote(t, g, b)
			hows[i] = taken
			wantSame(t, "Write", look(t, d), written(was, i+1, laid(b)))
			wantSet(t, "Write", g, hows)
			wantRead(t, "Write", g, b)
		}
		was := look(t, d)
		refuseWrite(t, "a full grid", g, of(ref(0, 7), 0, 1), api.ErrFull)
		wantSame(t, "a full grid", look(t, d), was)
		wantSet(t, "a full grid", g, hows)
		wantWanted(t, "a full grid", g)
		for i := range blocks {
			wantRead(t, "a full grid", g, like(i, ref(i+1, []int{0, 1, most, 77}[i%4])))
		}
	}
}

// P11.2: the greatest grid, to its last block, which ends where the disk does.
func TestWriteOfTheGreatestGrid(t *testing.T) {
	g, _ := fresh(t, 512)
	for i := range 512 {
		wrote(t, g, like(i, ref(i+1, i)))
	}
	refuseWrite(t, "a full grid", g, of(ref(0, 7), 0, 1), api.ErrFull)
	for i := range 512 {
		wantRead(t, "all", g, like(i, ref(i+1, i)))
	}
	wantWanted(t, "all", g)
}

// P11.2: of whatever set the free ones are taken, the lowest first, and no others.
func TestWriteTakesTheLowestFreeOne(t *testing.T) {
	for _, blocks := range []int{1, 2, 7, 65, 512} {
		for _, hows := range sets(blocks) {
			d := newDisk(t, sectorsFor(blocks))
			g := opened(t, d, hows)
			after := slices.Clone(hows)
			for i, how := range hows {
				if how != free {
					continue
				}
				wrote(t, g, api.GridBlock{Kind: 1, Ref: ref(i+1, i)})
				after[i] = taken
			}
			wantSet(t, "all free ones are taken", g, after)
			ops := d.Ops()
			refuseWrite(t, "none is free", g, of(ref(0, 7), 0, 1), api.ErrFull)
			if d.Ops() != ops {
				t.Error("a full grid has written")
			}
			wantSet(t, "none is free", g, after)
		}
	}
}

// P11.2: of each Kind, each count of Refs, each length of a body and each Stamp at its edges there is a block.
func TestWriteOfAllThatMayBe(t *testing.T) {
	g, d := fresh(t, 1)
	try := func(b api.GridBlock) {
		t.Helper()
		b.Ref.Address = 1
		ok(t, "Reset", g.Reset(setOf(all(1, free))))
		ok(t, "Flush", g.Flush())
		was := look(t, d)
		wrote(t, g, b)
		wantSame(t, "Write", look(t, d), written(was, 1, laid(b)))
		wantRead(t, "Write", g, b)
	}
	for kind := 1; kind <= 15; kind++ {
		b := of(ref(1, kind), 1, 9)
		b.Kind = kind
		try(b)
	}
	for count := range 17 {
		try(of(ref(1, 5), count, 9))
	}
	for _, size := range []int{0, 1, 2, 91, 92, 93, 347, 348, 349, 603, 604, 605, 859, 860} {
		try(of(ref(1, 5), 16, size))
		try(of(ref(1, 5), 0, size))
	}
	for _, stamp := range []int{0, 1, 255, 256, most - 1, most} {
		try(of(ref(1, stamp), 2, 5))
	}
	// Refs need not be of the grid, nor be there.
	for _, r := range []api.Ref{ref(1, 0), ref(1, most), ref(2, 0), ref(512, 0), ref(512, most)} {
		try(api.GridBlock{Kind: 3, Ref: ref(1, 8), Refs: []api.Ref{r}})
		try(api.GridBlock{Kind: 3, Ref: ref(1, 8), Refs: slices.Repeat([]api.Ref{r}, 16)})
	}
	wantWanted(t, "Refs that are not there", g)
}

// refused are blocks that may not be, by the words of chapter 10.
func refused() []api.GridBlock {
	var l []api.GridBlock
	for _, kind := range []int{0, -1, 16, 17, 257, math.MinInt, math.MaxInt, 1<<32 + 1} {
		b := of(ref(1, 5), 1, 9)
		b.Kind = kind
		l = append(l, b)
	}
	for _, stamp := range []int{-1, most + 1, -most, 1 << 31, 1 << 32, 1<<32 + 5, math.MinInt, math.MaxInt} {
		l = append(l, of(ref(1, stamp), 1, 9))
		for _, at := range []int{0, 1, 15} {
			b := of(ref(1, 5), 16, 9)
			b.Refs[at].Stamp = stamp
			l = append(l, b)
		}
	}
	for _, address := range []int{0, -1, 513, 514, 1<<16 + 1, 1<<32 + 1, math.MinInt, math.MaxInt} {
		for _, at := range []int{0, 1, 15} {
			b := of(ref(1, 5), 16, 9)
			b.Refs[at].Address = address
			l = append(l, b)
		}
	}
	for _, count := range []int{17, 18, 32, 1000} {
		b := of(ref(1, 5), 0, 9)
		b.Refs = slices.Repeat([]api.Ref{ref(1, 1)}, count)
		l = append(l, b)
	}
	for _, size := range []int{861, 862, 1024, 5000} {
		l = append(l, of(ref(1, 5), 0, size), of(ref(1, 5), 16, size))
	}
	return l
}

// P11.2: what may not be is refused, ahead of that the grid is full, and behind that the disk is out; nothing has changed.
func TestWriteRefuses(t *testing.T) {
	for _, hows := range [][]int{all(4, free), all(4, taken), {taken, letGo, letGo, taken}, {letGo, taken, free, free}} {
		d := newDisk(t, 120)
		g := opened(t, d, hows)
		was := look(t, d)
		for i, b := range refused() {
			refuseWrite(t, fmt.Sprint("what may not be, ", i), g, b, api.ErrArg)
		}
		wantSame(t, "refused", look(t, d), was)
		wantSet(t, "refused", g, hows)
		wantWanted(t, "refused", g)
		blow(t, d)
		was = look(t, d)
		for i, b := range append(refused(), of(ref(0, 5), 2, 9)) {
			refuseWrite(t, fmt.Sprint("out, ", i), g, b, api.ErrBroken)
		}
		wantSame(t, "out", look(t, d), was)
		wantSet(t, "out", g, hows)
	}
}

// P11.2: a refusal does not come to the disk: at a fuse of none it stays up.
func TestWriteRefusesAheadOfTheDisk(t *testing.T) {
	d := newDisk(t, 120)
	g := opened(t, d, all(4, letGo))
	fuse(t, d, 0)
	refuseWrite(t, "full", g, of(ref(0, 5), 2, 9), api.ErrFull)
	for _, b := range refused() {
		refuseWrite(t, "what may not be", g, b, api.ErrArg)
	}
	if !d.Up() {
		t.Error("a refusal blew the fuse")
	}
}

// P11.2: a Write whose disk fails leaves the block free, and what was let go as it was; the next one takes it.
func TestWriteOfADiskThatFails(t *testing.T) {
	for n := range 5 {
		d := newDisk(t, 128)
		hows := []int{taken, letGo, free, taken, free, free}
		g := opened(t, d, hows)
		fuse(t, d, n)
		for _, b := range []api.GridBlock{of(ref(3, 9), 1, 4), of(ref(5, 9), 1, 4), of(ref(6, 9), 1, 4)}[:min(n, 3)] {
			wrote(t, g, b)
			hows[b.Ref.Address-1] = taken
		}
		was := look(t, d)
		if n > 2 {
			refuseWrite(t, "a full grid", g, of(ref(0, 9), 1, 4), api.ErrFull)
			continue
		}
		was.up = false
		for range 2 {
			refuseWrite(t, fmt.Sprint("a fuse of ", n), g, of(ref(0, 9), 1, 4), api.ErrBroken)
			wantSet(t, "a fuse", g, hows)
			wantSame(t, "a fuse", look(t, d), was)
		}
		ok(t, "Crash", d.Crash(yes(9), -1))
		b := of(ref([]int{3, 5, 6}[n], 10), 2, 5)
		wrote(t, g, b)
		wantRead(t, "behind a crash", g, b)
		hows[b.Ref.Address-1] = taken
		wantSet(t, "behind a crash", g, hows)
	}
}

// P11.2: a Flush is one change of the disk, that makes all safe; its errors are the disk's.
func TestFlush(t *testing.T) {
	g, d := fresh(t, 4)
	ok(t, "Flush of nothing", g.Flush())
	if d.Ops() != 1 {
		t.Errorf("Flush of nothing: %d changes", d.Ops())
	}
	wrote(t, g, of(ref(1, 5), 0, 9))
	ok(t, "disk.Write", d.Write(0, some(256)))
	was := look(t, d)
	ok(t, "Flush", g.Flush())
	was.ops, was.loose, was.old = was.ops+1, nil, was.now
	wantSame(t, "Flush", look(t, d), was)
	wrote(t, g, of(ref(2, 5), 0, 9))
	was = look(t, d)
	fuse(t, d, 0)
	was.up = false
	for range 2 {
		want(t, "Flush at a fuse of none", g.Flush(), api.ErrBroken)
		wantSame(t, "Flush at a fuse of none", look(t, d), was)
	}
	wantSet(t, "Flush", g, []int{taken, taken, free, free})
	ok(t, "Crash", d.Crash(nil, -1))
	wantRead(t, "flushed", g, of(ref(1, 5), 0, 9))
	refuseRead(t, "not flushed", g, ref(2, 5), api.ErrFaulty)
}

// P11.2: Release looks at the Address alone: at each one at its edges, of blocks that are free, taken, let go.
func TestRelease(t *testing.T) {
	for _, blocks := range sizes() {
		for _, hows := range sets(blocks) {
			d := newDisk(t, sectorsFor(blocks))
			g := opened(t, d, hows)
			after := slices.Clone(hows)
			for _, address := range []int{1, 2, 3, blocks / 2, blocks - 1, blocks} {
				if address < 1 || address > blocks {
					continue
				}
				x := api.ErrState
				if after[address-1] == taken {
					x = api.OK
					after[address-1] = letGo
				}
				want(t, fmt.Sprint("Release of ", address), g.Release(ref(address, address%3)), x)
				want(t, "Release again", g.Release(ref(address, address%3)), api.ErrState)
				wantSet(t, "Release", g, after)
			}
			for _, address := range []int{0, -1, blocks + 1, blocks + 64, 513, 1<<16 + 1, 1<<32 + 1, math.MinInt, math.MinInt + 1, math.MaxInt} {
				want(t, fmt.Sprint("Release of ", address), g.Release(ref(address, 5)), api.ErrRange)
			}
			wantSet(t, "Release", g, after)
			wantWanted(t, "Release", g)
			if d.Ops() != 0 {
				t.Error("Release has changed the disk")
			}
		}
	}
}

// P11.2: whether the Stamp is the block's, or may be one at all, is not looked at, nor what the disk has.
func TestReleaseLooksAtNoStamp(t *testing.T) {
	g, _ := fresh(t, 4)
	for _, stamp := range []int{5, 6, -1, 0, most, most + 1, math.MinInt, math.MaxInt} {
		ok(t, "Reset", g.Reset(setOf(all(4, free))))
		wrote(t, g, of(ref(1, 5), 0, 9))
		ok(t, fmt.Sprint("Release of the Stamp ", stamp), g.Release(ref(1, stamp)))
		wantSet(t, "Release", g, []int{letGo, free, free, free})
	}
	ok(t, "Reset", g.Reset(setOf([]int{free, free, free, taken})))
	ok(t, "Release of a block that nobody wrote", g.Release(ref(4, 1)))
	wantWanted(t, "Release", g)
}

// P11.2: a block that is let go is not written until that is settled; then it is, as it is the lowest.
func TestReleaseSettleAndWriteAgain(t *testing.T) {
	g, d := fresh(t, 3)
	for i := range 2 {
		wrote(t, g, of(ref(i+1, 5), i, 9))
	}
	for round := range 4 {
		low, stamp := of(ref(1, 5+round), 0, 9+round), 6+round
		ok(t, "Release", g.Release(low.Ref))
		wantRead(t, "let go", g, low)
		other := of(ref(3, stamp), 2, 40)
		wrote(t, g, other)
		refuseWrite(t, "let go, but not settled", g, other, api.ErrFull)
		wantRead(t, "let go", g, low)
		if n := g.Settle(); n != 1 {
			t.Fatalf("Settle: %d", n)
		}
		wantRead(t, "settled, not written again", g, low)
		next := of(ref(1, stamp), 0, 10+round)
		wrote(t, g, next)
		wantRead(t, "written again", g, next)
		wantRead(t, "another one", g, of(ref(2, 5), 1, 9))
		refuseRead(t, "what stood there", g, low.Ref, api.ErrFaulty)
		ok(t, "Release", g.Release(other.Ref))
		if n := g.Settle(); n != 1 {
			t.Fatalf("Settle: %d", n)
		}
		ok(t, "Flush", g.Flush())
		ok(t, "Crash", d.Crash(nil, 0))
	}
}

// Rule 4: what Write is handed stays as it was, with its spare room, and is not kept.
func TestWriteKeepsNothingHandedIn(t *testing.T) {
	g, _ := fresh(t, 2)
	b := of(ref(1, 5), 3, 40)
	refs := append(names(3), ref(1, 2), ref(3, 4))
	body := append(some(40), 7, 7, 7)
	r, e := g.Write(9, refs[:3], body[:40], 5)
	if r != b.Ref || e != api.OK {
		t.Fatal(r, e)
	}
	if !slices.Equal(refs, append(names(3), ref(1, 2), ref(3, 4))) || !slices.Equal(body, append(some(40), 7, 7, 7)) {
		t.Error("Write has changed what it was handed")
	}
	spoilRefs(refs)
	spoil(body)
	wantRead(t, "what was handed in is changed", g, b)
	ok(t, "Flush", g.Flush())
	wantRead(t, "flushed", g, b)
}
