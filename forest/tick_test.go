package forest_test

import (
	"fmt"
	"strings"
	"testing"

	"exchequer/api"
)

// ops are numbers that may be an op, and some that may not.
func ops() map[int]api.Errno {
	return map[int]api.Errno{
		0: api.ErrArg, -1: api.ErrArg, most + 1: api.ErrArg, -1 << 63: api.ErrArg, 1<<63 - 1: api.ErrArg, 1<<32 + 1: api.ErrArg,
		1: api.OK, 2: api.OK, 255: api.OK, 256: api.OK, most - 1: api.OK, most: api.OK,
	}
}

// P16.3: an op that is not from 1 to 2^30 is ErrArg, ahead of all else, and nothing is done; the others stand as stamps.
func TestOpsOfTick(t *testing.T) {
	for op, wrong := range ops() {
		x := twins(t, 60)
		x.lay(t, 3, numbered(32, 0, "v"))
		x.tick(t, "an op", op)
		sizes := map[int][5]int{3: {0, 1}}
		if wrong != api.OK {
			sizes = map[int][5]int{3: {32}}
			x.blow(t)
			want(t, "and the disk is out", x.f.Tick(op), wrong)
			x.back(t)
		} else if b, e := x.g.Read(api.Ref{Address: 1, Stamp: op}); e != api.OK || b.Kind != api.KindData {
			t.Errorf("op %d: the first block: %v, %v", op, b, e)
		}
		wantSizes(t, fmt.Sprint("op ", op), x.f, sizes)
		x.goOn(t, "an op", 5)
	}
}

// P16.3: a table in memory of 32 pairs or more is written out, one of 31 stays; marks are pairs, too.
func TestWhatTickWritesOut(t *testing.T) {
	for n := range 65 {
		for _, gone := range []bool{false, true} {
			x := twins(t, 60)
			l := numbered(n, 0, "v")
			for i := range l {
				if gone {
					l[i].value, l[i].gone = "", true
				}
			}
			x.lay(t, 2, l)
			x.tick(t, fmt.Sprint(n, " pairs"), 7)
			sizes := [5]int{n}
			if n >= 32 {
				sizes = [5]int{0, 1}
			}
			wantSizes(t, fmt.Sprint(n, " pairs"), x.f, map[int][5]int{2: sizes})
			if !gone {
				wantScan(t, fmt.Sprint(n, " pairs"), x.f, 2, "", "", 1000, l, api.OK)
			}
			if n%8 == 7 {
				x.goOn(t, fmt.Sprint(n, " pairs"), 8)
			}
		}
	}
}

// P16.3: a Tick of what is not over, and has few pairs in memory, writes nothing.
func TestTickOfNothing(t *testing.T) {
	x := twins(t, 60)
	x.tick(t, "no pairs", 1)
	for tree := range 6 {
		x.lay(t, tree, numbered(31, 0, "v"))
	}
	ops := x.d.Ops()
	x.tick(t, "31 each", 2)
	x.blow(t)
	want(t, "31 each, the disk is out", x.f.Tick(3), api.OK)
	if x.d.Ops() != ops {
		t.Error("something was written")
	}
	x.back(t)
	x.goOn(t, "31 each", 4)
}

// kinds tells the kinds of the blocks from 1 on, by their numbers, and that each has the stamp.
func (s *scene) kinds(t testing.TB, from, to, stamp int) string {
	t.Helper()
	var l []string
	for a := from; a <= to; a++ {
		b, e := s.g.Read(api.Ref{Address: a, Stamp: stamp})
		if e != api.OK {
			t.Errorf("the block %d: %v", a, e)
		}
		l = append(l, fmt.Sprint(b.Kind))
	}
	return strings.Join(l, " ")
}

// P16.3: tree by tree: what is in memory is written out, then what is over is merged once, ahead of the next tree.
func TestOrderOfTick(t *testing.T) {
	x := twins(t, 200)
	for i := range 4 {
		for tree := range 6 {
			if tree != 3 {
				x.lay(t, tree, numbered(32, 10*i, fmt.Sprint(i)))
			}
		}
		x.tick(t, "four tables each", 1+i)
	}
	wantSizes(t, "four tables each", x.f, map[int][5]int{0: {0, 4}, 1: {0, 4}, 2: {0, 4}, 4: {0, 4}, 5: {0, 4}})
	if free, taken, gone := x.g.Counts(); free != 160 || taken != 40 || gone != 0 {
		t.Fatalf("%d free, %d taken, %d let go", free, taken, gone)
	}
	x.lay(t, 0, numbered(32, 40, "a"))
	x.lay(t, 1, numbered(31, 40, "b"))
	x.lay(t, 3, numbered(33, 40, "d"))
	x.lay(t, 5, numbered(64, 40, "f"))
	x.tick(t, "the fifth", 9)
	wantSizes(t, "the fifth", x.f, map[int][5]int{0: {0, 0, 2}, 1: {31, 4}, 2: {0, 4}, 3: {0, 1}, 4: {0, 4}, 5: {0, 0, 2}})
	// Of each tree that is over: a table of the pairs, then two of what all came to.
	if got := x.kinds(t, 41, 54, 9); got != "1 2 1 2 1 2 1 2 1 2 1 2 1 2" {
		t.Errorf("kinds: %s", got)
	}
	for i, first := range []string{"00040", "00000", "00064", "00040", "00040", "00000", "00064"} {
		b, e := x.g.Read(api.Ref{Address: 42 + 2*i, Stamp: 9})
		if e != api.OK || string(b.Body) != "\x05"+first {
			t.Errorf("the index block %d: %q, %v, want %s", i, b.Body, e, first)
		}
	}
	if _, _, gone := x.g.Counts(); gone != 20 {
		t.Errorf("%d blocks are let go", gone)
	}
	for tree := range 6 {
		x.asked(t, "the fifth", tree, "00000", "00010", "00045", "00071")
	}
	x.goOn(t, "the fifth", 10)
}

// P16.3: each Tick merges once in each tree, though more is over.
func TestOneStepATick(t *testing.T) {
	x := twins(t, 400)
	for i := range 12 {
		for tree := range 3 {
			x.lay(t, tree, numbered(2, 100*i, "v"))
		}
		x.checkpoint(t, "one more table", 1+i, "")
		x.settle(t, "one more table")
	}
	wantSizes(t, "12 tables each", x.f, map[int][5]int{0: {0, 12}, 1: {0, 12}, 2: {0, 12}})
	x.lay(t, 1, numbered(40, 0, "w"))
	x.tick(t, "the first step", 20)
	wantSizes(t, "the first step", x.f, map[int][5]int{0: {0, 0, 1}, 1: {0, 0, 1}, 2: {0, 0, 1}})
	for i := range 12 {
		x.lay(t, 2, heavy(64, 100*i, "v"))
		x.checkpoint(t, "more of the last one", 30+i, "")
		x.settle(t, "more of the last one")
	}
	x.tick(t, "the second step", 50)
	wantSizes(t, "the second step", x.f, map[int][5]int{0: {0, 0, 1}, 1: {0, 0, 1}, 2: {0, 0, 13}})
	x.tick(t, "the third step", 51)
	wantSizes(t, "the third step", x.f, map[int][5]int{0: {0, 0, 1}, 1: {0, 0, 1}, 2: {0, 0, 12, 1}})
	for range 3 {
		x.settle(t, "going on")
		x.tick(t, "going on", 52)
	}
	wantSizes(t, "later", x.f, map[int][5]int{0: {0, 0, 1}, 1: {0, 0, 1}, 2: {0, 0, 9, 4}})
	x.goOn(t, "later", 60)
}

// P16.3: the first error counts: what a tree ahead was written out and merged is taken back.
func TestErrorsOfTick(t *testing.T) {
	made := func() *twin {
		x := twins(t, 100)
		for i := range 4 {
			for tree := range 2 {
				x.lay(t, 2*tree+1, numbered(32, 10*i, fmt.Sprint(i)))
			}
			x.tick(t, "four tables each", 1+i)
		}
		x.lay(t, 0, numbered(32, 0, "a"))
		x.lay(t, 1, numbered(32, 0, "b"))
		x.lay(t, 3, numbered(32, 0, "c"))
		x.lay(t, 4, numbered(32, 0, "d"))
		return x
	}
	x := made()
	want(t, "as it is", x.tick(t, "as it is", 9), api.OK)
	for _, tree := range []int{1, 3} {
		for at := range 4 {
			x := made()
			ref := api.Ref{Address: 4*at + tree, Stamp: 1 + at} // the index block stands behind, at an even place
			x.both(func(s *scene) { s.turn(t, ref, 500) })
			want(t, "a block is turned", x.tick(t, "a block is turned", 9), api.ErrFaulty)
			wantSizes(t, "a block is turned", x.f, map[int][5]int{0: {32}, 1: {32, 4}, 3: {32, 4}, 4: {32}})
			x.wantWanted(t, "a block is turned", ref)
			x.both(func(s *scene) { s.turn(t, ref, 500) })
			want(t, "turned back", x.tick(t, "turned back", 9), api.OK)
			x.goOn(t, "turned back", 10)
		}
	}
	// Two faults: the one of the tree ahead is told, and wanted.
	x = made()
	x.both(func(s *scene) {
		s.turn(t, api.Ref{Address: 7, Stamp: 2}, 500)
		s.turn(t, api.Ref{Address: 5, Stamp: 2}, 500)
		s.fill(t, 0)
	})
	want(t, "full, and two are turned", x.tick(t, "full", 9), api.ErrFull)
	x.wantWanted(t, "full")
	x.both(func(s *scene) { ok(t, "Release", s.g.Release(api.Ref{Address: 99})); s.g.Settle() })
	want(t, "one is free", x.tick(t, "one is free", 9), api.ErrFull)
	x.both(func(s *scene) {
		for a := 90; a < 95; a++ {
			ok(t, "Release", s.g.Release(api.Ref{Address: a}))
		}
		s.g.Settle()
	})
	want(t, "six are free", x.tick(t, "six are free", 9), api.ErrFaulty)
	x.wantWanted(t, "six are free", api.Ref{Address: 5, Stamp: 2})
}

// P16.3: a block of a table that is let go can't be let go again: that error counts, and all is as it was.
func TestTickOfWhatIsLetGo(t *testing.T) {
	x := twins(t, 100)
	for i := range 4 {
		x.lay(t, 1, numbered(32, 10*i, fmt.Sprint(i)))
		x.tick(t, "four tables", 1+i)
	}
	x.both(func(s *scene) { ok(t, "Release", s.g.Release(api.Ref{Address: 5, Stamp: 3})) })
	x.lay(t, 0, numbered(50, 0, "a"))
	x.lay(t, 1, numbered(50, 0, "b"))
	want(t, "let go", x.tick(t, "let go", 9), api.ErrState)
	wantSizes(t, "let go", x.f, map[int][5]int{0: {50}, 1: {50, 4}})
	x.goOn(t, "let go", 10)
}
