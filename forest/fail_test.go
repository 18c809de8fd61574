package forest_test

import (
	"fmt"
	"slices"
	"strings"
	"testing"

	"exchequer/api"
)

// rich are twins that have all that a call may have to do with: trees with few pairs in memory and with many, tables that are to be merged with those of the next level, a last checkpoint, blocks that are let go.
func rich(t testing.TB) *twin {
	t.Helper()
	x := twins(t, 200)
	x.quiet = true
	x.lay(t, 1, heavy(3, 0, "o"))
	x.checkpoint(t, "rich", 1, "first")
	for i := range 5 {
		x.lay(t, 1, numbered(32, 20*i, fmt.Sprint(i)))
		x.lay(t, 4, heavy(32, 10*i, fmt.Sprint(i)))
		x.tick(t, "rich", 2+i)
	}
	for i := range 4 {
		x.settle(t, "rich")
		x.lay(t, 1, numbered(3, 9*i, "c"))
		x.lay(t, 4, heavy(7, 9*i, "d"))
		x.lay(t, 3, said("a1 b-"))
		x.checkpoint(t, "rich", 7+i, strings.Repeat("second", 200))
	}
	x.lay(t, 0, heavy(40, 0, "a"))
	x.lay(t, 1, numbered(33, 5, "b"))
	x.lay(t, 2, said("a1 b- c3"))
	x.lay(t, 4, heavy(64, 10, "e"))
	x.lay(t, 5, said("z-"))
	x.quiet = false
	wantSizes(t, "rich", x.f, map[int][5]int{0: {40}, 1: {33, 5, 2}, 2: {3}, 3: {0, 4}, 4: {64, 4, 2}, 5: {1}})
	return x
}

// call is something that may fail, done to a forest or to its grove.
type call struct {
	what string
	f    func(x *twin) (api.Ref, api.Errno)
	p    func(t testing.TB, p *grove) (api.Ref, api.Errno)
}

func calls() []call {
	extra := strings.Repeat("third", 400)
	return []call{
		{"Tick", func(x *twin) (api.Ref, api.Errno) { return api.Ref{}, x.f.Tick(20) },
			func(t testing.TB, p *grove) (api.Ref, api.Errno) { return api.Ref{}, p.tick(t, 20) }},
		{"Checkpoint", func(x *twin) (api.Ref, api.Errno) { return x.f.Checkpoint(20, []byte(extra)) },
			func(t testing.TB, p *grove) (api.Ref, api.Errno) { return p.checkpoint(t, 20, extra) }},
	}
}

// both wants a call to be done by both, alike.
func (c call) both(t testing.TB, what string, x *twin) {
	t.Helper()
	got, e := c.f(x)
	must, wrong := c.p(t, x.p)
	if e != api.OK || wrong != api.OK || got != must {
		t.Errorf("%s: %s: %v, %v, want %v, %v", what, c.what, got, e, must, wrong)
	}
	x.alike(t, what)
}

// done wants a call to be done by both, and both to go on.
func (c call) done(t testing.TB, what string, x *twin) {
	t.Helper()
	c.both(t, what, x)
	x.goOn(t, what, 30)
}

// fails wants a call to fail, and nothing to have changed with it.
func (c call) fails(t testing.TB, what string, x *twin, wrong api.Errno) {
	t.Helper()
	got, e := c.f(x)
	if e != wrong || got != (api.Ref{}) {
		t.Errorf("%s: %s: %v, %v, want %v", what, c.what, got, e, wrong)
	}
	x.alike(t, what)
}

// need tells how many changes a call makes to the disk, and how many blocks it takes.
func (c call) need(t testing.TB) (changes, blocks int) {
	t.Helper()
	x := rich(t)
	ops := x.d.Ops()
	free, _, _ := x.g.Counts()
	_, e := c.f(x)
	ok(t, c.what, e)
	left, _, _ := x.g.Counts()
	return x.d.Ops() - ops, free - left
}

// P16.3, P16.4: the disk goes out at any change, the flush among them: ErrBroken; the forest is as it was, and goes on when the disk is back.
func TestWhereTheDiskGoesOut(t *testing.T) {
	t.Parallel()
	for _, c := range calls() {
		changes, blocks := c.need(t)
		if c.what == "Tick" && changes != blocks || c.what == "Checkpoint" && changes != blocks+1 || blocks < 20 {
			t.Errorf("%s: %d changes, %d blocks", c.what, changes, blocks)
		}
		for n := range changes {
			what := fmt.Sprint(n, " changes")
			x := rich(t)
			x.fuse(t, n)
			c.fails(t, what, x, api.ErrBroken)
			x.wantWanted(t, what)
			c.fails(t, what+", out", x, api.ErrBroken)
			x.back(t)
			c.done(t, what+", then back", x)
		}
		x := rich(t)
		x.fuse(t, changes)
		c.both(t, "just as many changes", x)
		want(t, "one more", x.d.Flush(), api.ErrBroken)
	}
}

// P16.3, P16.4: any number of free blocks fewer than are needed: ErrFull, wherever that comes; the forest is as it was, and goes on when there is room. Just as many will do.
func TestWithoutRoom(t *testing.T) {
	t.Parallel()
	for _, c := range calls() {
		_, blocks := c.need(t)
		for free := range blocks + 1 {
			what := fmt.Sprint(free, " free blocks, of which ", blocks, " are needed")
			x := rich(t)
			var filled []api.Ref
			x.both(func(s *scene) { filled = s.fill(t, free) })
			if free < blocks {
				c.fails(t, what, x, api.ErrFull)
				x.letGo(t, filled)
				c.done(t, what+", then there is room", x)
				continue
			}
			c.both(t, what, x)
			if free, _, _ := x.g.Counts(); free != 0 {
				t.Errorf("%s: %d are free", what, free)
			}
			x.letGo(t, filled)
			x.goOn(t, what, 30)
		}
	}
}

// letGo frees blocks of both, and all that was let go.
func (x *twin) letGo(t testing.TB, l []api.Ref) {
	t.Helper()
	x.both(func(s *scene) {
		for _, ref := range l {
			ok(t, "Release", s.g.Release(ref))
		}
	})
	x.settle(t, "room")
}

// P16.4: one free block alone: the set can't be told of two; ErrFull, with the disk up, and ErrBroken, where it goes out ahead of that.
func TestRoomForOneBlock(t *testing.T) {
	for changes, wrong := range []api.Errno{api.ErrBroken, api.ErrFull, api.ErrFull} {
		x := twins(t, 10)
		x.both(func(s *scene) {
			s.fill(t, 1)
			s.fuse(t, changes)
		})
		if _, e := x.checkpoint(t, "one block", 8, ""); e != wrong {
			t.Errorf("%d changes: %v, want %v", changes, e, wrong)
		}
	}
}

// P16.3: a table that is faulty, in any tree, in From or in Into: ErrFaulty, and what is missing is wanted; the forest is as it was, and goes on when it is there again.
func TestOfFaultyBlocks(t *testing.T) {
	t.Parallel()
	c := calls()[0]
	asked := 0
	for a, how := range hows(rich(t).g.Free()) {
		if how != 1 || a == 0 {
			continue
		}
		x := rich(t)
		ref := firstOf(t, x.scene, a)
		raw, e := x.g.Raw(ref)
		ok(t, "Raw", e)
		what := fmt.Sprint("the block ", ref, " is turned")
		x.turn(t, ref, 700)
		if _, e := c.f(x); e == api.OK {
			continue
		}
		asked++
		x = rich(t)
		x.both(func(s *scene) { s.turn(t, ref, 700) })
		sizes := x.f.Sizes()
		if got, e := c.f(x); e != api.ErrFaulty || got != (api.Ref{}) {
			t.Errorf("%s: %v, %v", what, got, e)
		}
		x.wantWanted(t, what, ref)
		if got, must := hows(x.g.Free()), hows(x.p.g.Free()); !slices.Equal(x.f.Sizes(), sizes) || !slices.Equal(got, must) {
			t.Errorf("%s: Sizes: %v, want %v; the blocks are %v, want %v", what, x.f.Sizes(), sizes, got, must)
		}
		x.both(func(s *scene) { ok(t, "Install", s.g.Install(ref, raw)) })
		c.done(t, what+", then put right", x)
	}
	if asked < 10 {
		t.Errorf("%d blocks alone are asked for", asked)
	}
}

// firstOf is the ref of the block at an address.
func firstOf(t testing.TB, s *scene, address int) api.Ref {
	t.Helper()
	for stamp := range 20 {
		ref := api.Ref{Address: address, Stamp: stamp}
		if _, e := s.clone(t).g.Read(ref); e == api.OK {
			return ref
		}
	}
	t.Fatalf("there is no block %d", address)
	return api.Ref{}
}

// P16.4: Checkpoint reads no block: one that is damaged does not keep it.
func TestCheckpointOverFaultyBlocks(t *testing.T) {
	x := rich(t)
	for a, how := range hows(x.g.Free()) {
		if a > 0 && how == 1 {
			x.both(func(s *scene) { s.turn(t, api.Ref{Address: a}, 700) })
		}
	}
	if _, e := x.checkpoint(t, "all are turned", 8, "xyz"); e != api.OK {
		t.Errorf("Checkpoint: %v", e)
	}
	x.wantWanted(t, "all are turned")
}
