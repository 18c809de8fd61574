package grid_test

import (
	"bytes"
	"fmt"
	"math/rand"
	"slices"
	"testing"

	"exchequer/api"
	"exchequer/disk"
	"exchequer/grid"
)

// crashes are ways in which a disk may crash: where few sectors are loose all of them, any of these kept, and any one of those torn, or none; else some by chance.
func crashes(t testing.TB, d *disk.Disk, chance *rand.Rand, each func(*disk.Disk)) {
	t.Helper()
	loose := len(d.Loose())
	few := loose <= 4
	ways := 1 << min(loose, 4)
	if !few {
		ways = 12
	}
	for way := range ways {
		keeps := make([]bool, loose)
		stay := 0
		for i := range keeps {
			keeps[i] = few && way>>i&1 == 1 || !few && chance.Intn(2) == 1
			if keeps[i] {
				stay++
			}
		}
		for tear := -1; tear < stay; tear++ {
			if few || tear < 0 || chance.Intn(4) == 0 {
				c := d.Clone()
				ok(t, "Crash", c.Crash(keeps, tear))
				each(c)
			}
		}
	}
}

// diary is what was done to a grid, told by its answers alone: what was written, by its ref; of that what was flushed, and was not let go and settled since; what was let go.
type diary struct {
	g       *grid.Grid
	written map[api.Ref]api.GridBlock
	safe    map[api.Ref]api.GridBlock
	gone    []api.Ref
}

func begun(g *grid.Grid) *diary {
	return &diary{g: g, written: map[api.Ref]api.GridBlock{}, safe: map[api.Ref]api.GridBlock{}}
}

// held are the refs of what was written and was not let go, in order.
func (y *diary) held() []api.Ref {
	var l []api.Ref
	for r := range y.written {
		if !slices.Contains(y.gone, r) {
			l = append(l, r)
		}
	}
	slices.SortFunc(l, func(a, b api.Ref) int { return a.Address - b.Address })
	return l
}

// step does a deed; each has a Stamp of its own, so that no two blocks have one ref. It tells whether the disk went out.
func (y *diary) step(t testing.TB, stamp int, by *deeds) bool {
	t.Helper()
	e := api.OK
	switch by.next(8) {
	case 0, 1, 2:
		b := like(by.next(200), ref(0, stamp))
		b.Ref, e = y.g.Write(b.Kind, b.Refs, b.Body, stamp)
		if e == api.OK {
			y.written[b.Ref] = b
		}
	case 3, 4:
		e = y.g.Flush()
		for r, b := range y.written {
			if e == api.OK {
				y.safe[r] = b
			}
		}
	case 5, 6:
		if l := y.held(); len(l) > 0 {
			r := l[by.next(len(l))]
			e = y.g.Release(r)
			y.gone = append(y.gone, r)
		}
	case 7:
		if n := y.g.Settle(); n != len(y.gone) {
			t.Fatalf("Settle: %d, want %d", n, len(y.gone))
		}
		for _, r := range y.gone {
			delete(y.written, r)
			delete(y.safe, r)
		}
		y.gone = nil
	}
	if e != api.OK && e != api.ErrFull && e != api.ErrBroken {
		t.Fatal(e)
	}
	return e == api.ErrBroken
}

// wantKept wants all that was flushed to be told, and of what was written beside it each block, or that it is not there.
func (y *diary) wantKept(t testing.TB, what string, g *grid.Grid) {
	t.Helper()
	for _, b := range y.safe {
		wantRead(t, what, g, b)
	}
	for r, b := range y.written {
		if x, e := g.Read(r); e != api.ErrFaulty && (e != api.OK || !same(x, b)) {
			t.Errorf("%s: Read(%v): %+v, %v, was written as %+v", what, r, x, e, b)
		}
	}
}

// P11.5: any blocks that are written, flushed, let go, settled and written again, a disk that goes out at each change, and a crash behind it: what was flushed is read until it was let go and settled; what was not is read as it was, or not at all.
func TestCrashes(t *testing.T) {
	t.Parallel()
	chance := rand.New(rand.NewSource(5))
	for round := range 25 {
		script := make([]byte, 80)
		chance.Read(script)
		for stop := range 25 {
			g, d := fresh(t, 2+round%5)
			fuse(t, d, stop)
			y, by := begun(g), &deeds{script}
			out := false
			for stamp := 0; len(by.b) > 0 && !out; stamp++ {
				out = y.step(t, stamp, by)
			}
			crashes(t, d, chance, func(c *disk.Disk) {
				what := fmt.Sprintf("round %d, a fuse of %d", round, stop)
				y.wantKept(t, what, opened(t, c, all(2+round%5, free)))
			})
			ok(t, "Crash", d.Crash(nil, 0))
			y.wantKept(t, "the grid itself", g)
			if !out {
				break
			}
		}
	}
}

// P11.5: a block that was flushed is read behind crashes in whatever is written beside it, until it is let go and settled, and written again.
func TestFlushedUntilSettled(t *testing.T) {
	g, d := fresh(t, 3)
	chance := rand.New(rand.NewSource(6))
	b := of(ref(1, 5), 4, 500)
	wrote(t, g, b)
	refuses := 0
	crashes(t, d, chance, func(c *disk.Disk) {
		if x, e := opened(t, c, all(3, taken)).Read(b.Ref); e == api.ErrFaulty {
			refuses++
		} else if e != api.OK || !same(x, b) {
			t.Errorf("not flushed: %+v, %v", x, e)
		}
	})
	if refuses == 0 {
		t.Error("no crash took away what was not flushed")
	}
	ok(t, "Flush", g.Flush())
	still := func(what string) {
		t.Helper()
		crashes(t, d, chance, func(c *disk.Disk) { wantRead(t, what, opened(t, c, all(3, free)), b) })
	}
	still("flushed")
	wrote(t, g, of(ref(2, 6), 0, 300))
	still("another one is written")
	ok(t, "Release", g.Release(b.Ref))
	wrote(t, g, of(ref(3, 7), 0, 300))
	refuseWrite(t, "let go, but not settled", g, of(ref(0, 8), 0, 300), api.ErrFull)
	still("let go, and another one is written")
	g.Settle()
	still("settled, but not written again")
	next := of(ref(1, 9), 0, 700)
	wrote(t, g, next)
	ok(t, "Flush", g.Flush())
	crashes(t, d, chance, func(c *disk.Disk) {
		o := opened(t, c, all(3, free))
		refuseRead(t, "written again", o, b.Ref, api.ErrFaulty)
		wantRead(t, "written again", o, next)
	})
}

// P11.5: a block is turned at each byte: it is not read, nor told raw, but is wanted, once, and reached as missing; turned back it is read; the others are.
func TestTurnedAtAnyByte(t *testing.T) {
	for _, b := range []api.GridBlock{of(ref(2, 0), 0, 0), of(ref(2, 77), 16, 860)} {
		g, d := fresh(t, 3)
		below, above := of(ref(1, 5), 1, 200), link(ref(3, 5), b.Ref)
		for _, x := range []api.GridBlock{below, b, above} {
			wrote(t, g, x)
		}
		ok(t, "Flush", g.Flush())
		for at := range 1024 {
			for _, mask := range []byte{1, 0x80, 0xff} {
				sector, place := placeOf(2)+at/256, at%256
				ok(t, "Turn", d.Turn(sector, place, mask))
				refuseRead(t, fmt.Sprint("turned at ", at), g, b.Ref, api.ErrFaulty)
				if mask == 0x80 {
					wantReach(t, "turned", g, above.Ref, b.Ref)
				}
				ok(t, "Turn", d.Turn(sector, place, mask))
			}
			if at%100 == 0 {
				wantRead(t, "turned back", g, b)
				wantRead(t, "another one", g, below)
				wantRead(t, "another one", g, above)
			}
		}
		wantWanted(t, "turned at each byte", g, b.Ref)
		wantRead(t, "turned back", g, b)
	}
}

// turnTo turns the bytes of a block on a disk until they are these.
func turnTo(t testing.TB, d *disk.Disk, address int, raw []byte) {
	t.Helper()
	was, e := d.Read(placeOf(address), 4)
	ok(t, "disk.Read", e)
	for i, c := range raw {
		ok(t, "Turn", d.Turn(placeOf(address)+i/256, i%256, was[i]^c))
	}
}

// P11.5: turned so that its seal is right again, a block is what its bytes say: read as that, if its ref is the same and it is one that may be.
func TestTurnedWithARightSeal(t *testing.T) {
	g, d := fresh(t, 3)
	b := of(ref(1, 5), 2, 200)
	wrote(t, g, b)
	ok(t, "Flush", g.Flush())
	other := b
	other.Kind, other.Body = 3, some(77)
	turnTo(t, d, 1, laid(other))
	wantRead(t, "another body", g, other)
	wantWanted(t, "another body", g)
	other.Ref.Stamp = 6
	turnTo(t, d, 1, laid(other))
	refuseRead(t, "another Stamp", g, b.Ref, api.ErrFaulty)
	wantRead(t, "another Stamp", g, other)
	other.Ref = ref(2, 5)
	turnTo(t, d, 1, laid(other))
	refuseRead(t, "another Address", g, b.Ref, api.ErrFaulty)
	refuseRead(t, "another Address", g, other.Ref, api.ErrFaulty)
	other = b
	other.Kind = 0
	turnTo(t, d, 1, laid(other))
	refuseRead(t, "a Kind that is none", g, b.Ref, api.ErrFaulty)
	wantWanted(t, "turned", g, b.Ref, ref(2, 5))
	turnTo(t, d, 1, laid(b))
	wantRead(t, "turned back", g, b)
}

// P11.5: what is turned, and installed again, is read, byte by byte as it was; behind a crash, if it was flushed; till then, or it is not told.
func TestInstalledAgain(t *testing.T) {
	chance := rand.New(rand.NewSource(7))
	for round := range 30 {
		g, d := fresh(t, 3)
		b, other := like(round, ref(1, 5)), like(round+1, ref(2, 5))
		wrote(t, g, b)
		wrote(t, g, other)
		ok(t, "Flush", g.Flush())
		raw, e := g.Raw(b.Ref)
		ok(t, "Raw", e)
		for range 1 + chance.Intn(3) {
			ok(t, "Turn", d.Turn(104+chance.Intn(4), chance.Intn(256), byte(1+chance.Intn(255))))
		}
		refuseRead(t, "turned", g, b.Ref, api.ErrFaulty)
		wantWanted(t, "turned", g, b.Ref)
		ok(t, "Install", g.Install(b.Ref, raw))
		wantRead(t, "installed", g, b)
		wantWanted(t, "installed", g)
		crashes(t, d, chance, func(c *disk.Disk) {
			o := opened(t, c, all(3, taken))
			wantRead(t, "another one", o, other)
			if x, e := o.Read(b.Ref); e != api.ErrFaulty && (e != api.OK || !same(x, b)) {
				t.Errorf("not flushed: %+v, %v", x, e)
			}
		})
		ok(t, "Flush", g.Flush())
		crashes(t, d, chance, func(c *disk.Disk) { wantRead(t, "flushed", opened(t, c, all(3, taken)), b) })
		wantSet(t, "installed", g, []int{taken, taken, free})
	}
}

// P11.5: a block that is there, installed once more, is there in whatever crash: its bytes are the same.
func TestInstalledOverItself(t *testing.T) {
	chance := rand.New(rand.NewSource(8))
	g, d := fresh(t, 1)
	b := of(ref(1, 5), 3, 860)
	wrote(t, g, b)
	ok(t, "Flush", g.Flush())
	ok(t, "Install", g.Install(b.Ref, laid(b)))
	if len(d.Loose()) != 4 {
		t.Fatalf("loose: %v", d.Loose())
	}
	crashes(t, d, chance, func(c *disk.Disk) { wantRead(t, "installed over itself", opened(t, c, all(1, free)), b) })
}

// P11.5: whatever is called but Install, a block that is taken, or let go, has its bytes.
func TestTakenIsWrittenByInstallAlone(t *testing.T) {
	for _, how := range []int{taken, letGo} {
		d := newDisk(t, sectorsFor(4))
		g := opened(t, d, []int{how, free, how, free})
		for _, address := range []int{1, 3} {
			lay(t, d, of(ref(address, 5), 3, 300))
		}
		wrote(t, g, of(ref(2, 6), 0, 9))
		wrote(t, g, of(ref(4, 6), 0, 9))
		refuseWrite(t, "full", g, of(ref(0, 6), 0, 9), api.ErrFull)
		refuseRead(t, "another Stamp", g, ref(1, 6), api.ErrFaulty)
		_, e := g.Reach(ref(1, 5))
		ok(t, "Reach", e)
		g.Release(ref(1, 5))
		ok(t, "Flush", g.Flush())
		refuseWrite(t, "full", g, of(ref(0, 6), 0, 9), api.ErrFull)
		want(t, "Install of another one", g.Install(ref(1, 5), laid(of(ref(1, 6), 0, 9))), api.ErrArg)
		for _, address := range []int{1, 3} {
			raw, e := d.Read(placeOf(address), 4)
			ok(t, "disk.Read", e)
			if !bytes.Equal(raw, laid(of(ref(address, 5), 3, 300))) {
				t.Errorf("the block %d, which is %d, has changed", address, how)
			}
		}
		ok(t, "Install", g.Install(ref(1, 6), laid(of(ref(1, 6), 0, 9))))
		wantRead(t, "installed", g, of(ref(1, 6), 0, 9))
	}
}
