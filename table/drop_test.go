package table_test

import (
	"fmt"
	"slices"
	"testing"

	"exchequer/api"
	"exchequer/table"
)

// P13.3: Blocks tells the index block and the data blocks, in this order, of tables of all kinds; Drop lets just these go; another Drop is refused; settled, they are free.
func TestBlocksAndDrop(t *testing.T) {
	for what, l := range tables() {
		s := begin(t, 60)
		ahead := s.built(t, heavy(7), 3)
		blocks := s.blocksOf(l, 5)
		r := s.built(t, l, 5)
		behind := s.built(t, heavy(8), 4)
		last := len(blocks) - 1
		refs := []api.Ref{blocks[last].Ref}
		for _, b := range blocks[:last] {
			refs = append(refs, b.Ref)
		}
		was := s.look(t)
		wantBlocks(t, what, s.g, r, refs...)
		s.unchanged(t, what, was)
		want(t, what+": Drop", table.Drop(s.g, r), api.OK)
		for _, b := range refs {
			s.hows[b.Address-1] = letGo
		}
		s.unchanged(t, what+", dropped", was)
		want(t, what+": Drop again", table.Drop(s.g, r), api.ErrState)
		s.unchanged(t, what+", dropped again", was)
		// What is let go is there until its blocks are written again.
		wantAll(t, what, s.g, r, l)
		wantBlocks(t, what, s.g, r, refs...)
		if n := s.g.Settle(); n != len(refs) {
			t.Errorf("%s: Settle: %d, want %d", what, n, len(refs))
		}
		for _, b := range refs {
			s.hows[b.Address-1] = free
		}
		want(t, what+": Drop of what is free", table.Drop(s.g, r), api.ErrState)
		s.check(t, what+", settled")
		s.wantBuild(t, what+", built in its place", l, 6)
		refuseAllCalls(t, what+", written over", s.g, r, api.ErrFaulty)
		wantAll(t, what, s.g, ahead, heavy(7))
		wantAll(t, what, s.g, behind, heavy(8))
	}
}

// P13.3: Drop lets the blocks go in their order, the index block first, up to the first one that cannot be: those ahead stay let go.
func TestDropUpToAnError(t *testing.T) {
	l := heavy(17)
	for at := range 5 {
		for _, how := range []int{free, letGo} {
			s := begin(t, 20)
			r := s.built(t, l, 5)
			blocks, e := table.Blocks(s.g, r)
			ok(t, "Blocks", e)
			s.hows[blocks[at].Address-1] = how
			ok(t, "Reset", s.g.Reset(setOf(s.hows)))
			was := s.look(t)
			want(t, "Drop", table.Drop(s.g, r), api.ErrState)
			for _, b := range blocks[:at] {
				s.hows[b.Address-1] = letGo
			}
			s.unchanged(t, fmt.Sprint("the block ", at, " is ", how), was)
			wantAll(t, "dropped in part", s.g, r, l)
		}
	}
}

// P13.3: Drop of an index block that names a block that is not of the grid, or one twice.
func TestDropOfStrangeRefs(t *testing.T) {
	root, r := ref(20, 7), api.Run{Root: ref(20, 7)}
	for _, strange := range []api.Ref{ref(25, 5), ref(512, 5), ref(1, 5), ref(20, 7)} {
		s := shelf(t)
		b := indexOf(root, 3, "a", "b", "c")
		b.Refs[1] = strange
		s.lay(t, b)
		e := api.ErrState
		if strange.Address > 24 {
			e = api.ErrRange
		}
		want(t, fmt.Sprint("Drop with ", strange), table.Drop(s.g, r), e)
		s.hows[19], s.hows[0] = letGo, letGo
		s.check(t, "a strange ref")
	}
	// That a block has another stamp than the index says is not looked at.
	s := shelf(t)
	b := indexOf(root, 2, "a", "b")
	b.Refs[1].Stamp = 6
	s.lay(t, b)
	want(t, "Drop with another stamp", table.Drop(s.g, r), api.OK)
	s.hows[19], s.hows[0], s.hows[1] = letGo, letGo, letGo
	s.check(t, "another stamp")
}

// P13.3: Drop does not look at data blocks: these may be turned.
func TestDropWithTurnedDataBlocks(t *testing.T) {
	for what, l := range tables() {
		s := begin(t, 20)
		blocks := s.blocksOf(l, 5)
		r := s.built(t, l, 5)
		for _, b := range blocks[:len(blocks)-1] {
			s.turn(t, b.Ref.Address, 500, 1)
		}
		if got, e := table.Blocks(s.g, r); e != api.OK || len(got) != len(blocks) {
			t.Errorf("%s: Blocks: %v, %v", what, got, e)
		}
		want(t, what+": Drop", table.Drop(s.g, r), api.OK)
		for _, b := range blocks {
			s.hows[b.Ref.Address-1] = letGo
		}
		s.check(t, what)
	}
}

// P13.3: tables are built, dropped and settled by turns, and the grid never has fewer free blocks than it must.
func TestBuildAndDropByTurns(t *testing.T) {
	s := begin(t, 31)
	var old api.Run
	for i := range 40 {
		l := mixed(1+i*11%64, i)
		r := s.wantBuild(t, fmt.Sprint("the turn ", i), l, i)
		if i > 0 {
			s.wantDrop(t, "the one ahead", old)
		}
		s.g.Settle()
		for at, how := range s.hows {
			if how == letGo {
				s.hows[at] = free
			}
		}
		s.check(t, "settled")
		wantAll(t, "the last one", s.g, r, l)
		old = r
	}
	s.wantDrop(t, "the last one", old)
	s.g.Settle()
	if b := s.g.Free(); !slices.Equal(b, setOf(make([]int, 31))) {
		t.Errorf("not all blocks are free: %v", b)
	}
}
