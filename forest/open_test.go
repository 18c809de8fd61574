package forest_test

import (
	"fmt"
	"slices"
	"strings"
	"testing"

	"exchequer/api"
	"exchequer/forest"
	"exchequer/grid"
)

// opens wants Open of a root to tell what it must, of the forest's scene and of the grove's, on grids of free blocks, and tells the twins that come of it, if any do.
func opens(t testing.TB, what string, a, b *scene, root api.Ref) *twin {
	t.Helper()
	x := &twin{scene: a, p: plant(b)}
	p, extra, wrong := b.open(root)
	was := slices.Clone(a.g.Free())
	f, got, e := forest.Open(a.g, root)
	if e != wrong || string(got) != extra || (f == nil) != (e != api.OK) {
		t.Fatalf("%s: Open %v: %t, %d bytes, %v, want %d bytes, %v", what, root, f != nil, len(got), e, len(extra), wrong)
	}
	if !slices.Equal(a.g.Wanted(), b.g.Wanted()) {
		t.Errorf("%s: Open %v: wanted are %v, want %v", what, root, a.g.Wanted(), b.g.Wanted())
	}
	if e != api.OK {
		if !slices.Equal(a.g.Free(), was) {
			t.Errorf("%s: Open %v: the blocks are %v, were %v", what, root, hows(a.g.Free()), hows(was))
		}
		return nil
	}
	x.f, x.p = f, p
	x.alike(t, what+": opened")
	return x
}

// P16.5: opened at a checkpoint, on another grid or on its own, a forest has just the checkpoint's tables, none in memory, its set of free blocks, and its extra bytes; and goes on, as one does that never was away.
func TestOpen(t *testing.T) {
	for _, extra := range []string{"", "x", strings.Repeat("e", 2000)} {
		x := rich(t)
		root, e := x.checkpoint(t, "the last", 20, extra)
		ok(t, "Checkpoint", e)
		var all [6][]item
		for tree := range 6 {
			all[tree], e = x.p.scan(tree, "", "", 1000)
			ok(t, "scan", e)
		}
		sizes := x.f.Sizes()
		for _, later := range []bool{false, true} {
			if later {
				x.lay(t, 0, numbered(33, 0, "later"))
				x.lay(t, 3, said("a- b7"))
				x.tick(t, "later", 21)
				x.checkpoint(t, "later", 21, "later")
			}
			a, b := x.scene.clone(t), x.p.scene.clone(t)
			y := opens(t, "its own grid's clone", a, b, root)
			o := opens(t, "grids of free blocks", a.anew(t), b.anew(t), root)
			for what, z := range map[string]*twin{"one": y, "the other": o} {
				if !slices.Equal(z.f.Sizes(), sizes) {
					t.Errorf("%s: Sizes: %v, want %v", what, z.f.Sizes(), sizes)
				}
				for tree := range 6 {
					wantScan(t, what, z.f, tree, "", "", 1000, all[tree], api.OK)
				}
			}
			y.goOn(t, "opened", 22)
		}
	}
}

// P16.5: what is opened on a forest's own grid gives it the checkpoint's set; that forest is as it was beside that.
func TestOpenOnItsOwnGrid(t *testing.T) {
	s := begin(t, 40)
	f := planted(t, s)
	lay(t, f, 0, said("a1"))
	wantCheckpoint(t, "the first", f, 8, "xyz", at(8, 6)[0], api.OK)
	lay(t, f, 0, numbered(40, 0, "v"))
	want(t, "Tick", f.Tick(9), api.OK)
	s.wantSet(t, "ticked", to(1, 8), nil)
	o := s.opened(t, at(8, 6)[0], "xyz")
	s.wantSet(t, "opened", to(1, 6), nil)
	wantScan(t, "opened", o, 0, "", "", 5, said("a1"), api.OK)
	wantSizes(t, "the forest itself", f, map[int][5]int{0: {0, 2}})
	wantGet(t, "the forest itself", f, 0, "00007", "v", api.OK)
	wantCheckpoint(t, "of the one that was opened", o, 16, "", at(16, 9)[0], api.OK)
	s.wantSet(t, "behind that", []int{1, 2, 7, 8, 9}, to(3, 6))
}

// P16.5: the blocks of the last checkpoint are those that were read: the next checkpoint lets them go, and no others.
func TestNextCheckpointOfWhatWasOpened(t *testing.T) {
	for _, n := range []int{0, 1, 3000, 12900} {
		for _, tables := range []int{0, 1, 15, 16, 40} {
			x := twins(t, 300)
			for i := range tables {
				x.lay(t, i%6, small(i, 3))
				if i%6 == 5 {
					x.checkpoint(t, "tables", 1+i, "")
					x.settle(t, "tables")
				}
			}
			root, e := x.checkpoint(t, "the last", 100, strings.Repeat("x", n))
			ok(t, "Checkpoint", e)
			x.settle(t, "the last")
			what := fmt.Sprint(n, " bytes, ", tables, " tables")
			y := opens(t, what, x.scene.anew(t), x.p.scene.anew(t), root)
			if got, must := hows(y.g.Free()), hows(x.g.Free()); !slices.Equal(got, must) {
				t.Errorf("%s: opened, the blocks are %v, want %v", what, got, must)
			}
			y.checkpoint(t, what, 101, "")
			x.checkpoint(t, what, 101, "")
			if got, must := hows(y.g.Free()), hows(x.g.Free()); !slices.Equal(got, must) {
				t.Errorf("%s: behind the next one the blocks are %v, want %v", what, got, must)
			}
		}
	}
}

// P16.5: grid.Read's error of a root: one that is not of the grid, that is not there, a disk that is out.
func TestOpenOfRootsThatAreNot(t *testing.T) {
	s := begin(t, 40)
	f := planted(t, s)
	lay(t, f, 0, said("a1"))
	wantCheckpoint(t, "the first", f, 8, "xyz", at(8, 6)[0], api.OK)
	for _, ref := range []api.Ref{{}, {Address: 41, Stamp: 8}, {Address: -1, Stamp: 8}, {Address: 6, Stamp: -1}, {Address: 6, Stamp: most + 1}, {Address: 1 << 40, Stamp: 8}} {
		s.refuseOpen(t, "not of the grid", ref, api.ErrArg)
	}
	s.wantWanted(t, "not of the grid")
	for _, ref := range []api.Ref{{Address: 7, Stamp: 8}, {Address: 6, Stamp: 7}, {Address: 6, Stamp: 0}, {Address: 40, Stamp: most}} {
		s.refuseOpen(t, "not there", ref, api.ErrFaulty)
	}
	s.wantWanted(t, "not there", api.Ref{Address: 7, Stamp: 8}, api.Ref{Address: 6, Stamp: 7}, api.Ref{Address: 6}, api.Ref{Address: 40, Stamp: most})
	smaller(t, s).refuseOpen(t, "not of a smaller grid", at(8, 6)[0], api.ErrArg)
	s.blow(t)
	s.refuseOpen(t, "out", at(8, 6)[0], api.ErrBroken)
	s.refuseOpen(t, "out, and not of the grid", api.Ref{}, api.ErrBroken)
	s.back(t)
	s.opened(t, at(8, 6)[0], "xyz")
}

// smaller is a grid of five blocks on a scene's disk.
func smaller(t testing.TB, s *scene) *scene {
	t.Helper()
	g, e := grid.New(s.d, 5)
	ok(t, "grid.New", e)
	return &scene{s.d, g, 5}
}

// P16.5: each block of a checkpoint, turned: the first that is not there, in the order in which they are read, is wanted; tables' blocks are not read.
func TestOpenOfTurnedBlocks(t *testing.T) {
	x := rich(t)
	root, e := x.checkpoint(t, "the last", 20, strings.Repeat("e", 2000))
	ok(t, "Checkpoint", e)
	last := x.p.last // three extra blocks, the last part's first, two of the manifest, the free ones', the root
	n := len(last)
	if n != 7 {
		t.Fatalf("the checkpoint has the blocks %v", last)
	}
	read := []api.Ref{last[6], last[5], last[4], last[3], last[2], last[1], last[0]}
	for i := range read {
		for j := range read[i:] {
			a, b := x.scene.clone(t), x.p.scene.clone(t)
			for _, s := range []*scene{a, b} {
				s.turn(t, read[i], 900)
				if j > 0 {
					s.turn(t, read[i+j], 30)
				}
			}
			a.refuseOpen(t, fmt.Sprint("the blocks ", i, " and ", i+j), root, api.ErrFaulty)
			a.wantWanted(t, fmt.Sprint("the blocks ", i, " and ", i+j), read[i])
			raw, e := x.g.Raw(read[i])
			ok(t, "Raw", e)
			ok(t, "Install", a.g.Install(read[i], raw))
			if j == 0 {
				a.opened(t, root, strings.Repeat("e", 2000))
			} else {
				a.refuseOpen(t, "one of two put right", root, api.ErrFaulty)
				a.wantWanted(t, "one of two put right", read[i+j])
			}
		}
	}
	a, b := x.scene.clone(t), x.p.scene.clone(t)
	for i, how := range hows(x.g.Free()) {
		if how == 1 && !slices.ContainsFunc(last, func(r api.Ref) bool { return r.Address == i }) && i > 0 {
			a.turn(t, api.Ref{Address: i}, 500)
			b.turn(t, api.Ref{Address: i}, 500)
		}
	}
	y := opens(t, "all tables are turned", a, b, root)
	a.wantWanted(t, "all tables are turned")
	y.asked(t, "all tables are turned", 4, "00001")
}
