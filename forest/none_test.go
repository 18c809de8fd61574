package forest_test

import (
	"slices"
	"testing"

	"exchequer/api"
	"exchequer/forest"
	"exchequer/grid"
)

// noGrids are grids that are nil, or that nobody made.
func noGrids(t testing.TB, s *scene) map[string]*grid.Grid {
	t.Helper()
	copied := *s.g
	refused, _ := grid.New(nil, 4)
	return map[string]*grid.Grid{"nil": nil, "an empty one": {}, "a copy by assignment": &copied, "one that New refused": refused}
}

// noForests are forests that are nil, or that nobody made.
func noForests(t testing.TB, f *forest.Forest, s *scene) map[string]*forest.Forest {
	t.Helper()
	copied := *f
	refused, _ := forest.New(nil)
	unopened, _, _ := forest.Open(s.g, api.Ref{Address: s.blocks, Stamp: most})
	return map[string]*forest.Forest{"nil": nil, "an empty one": {}, "a copy by assignment": &copied, "one that New refused": refused, "one that Open refused": unopened}
}

// Rule 5: a forest that is nil, or that nobody made, is ErrNil, ahead of all else; it has no sizes, and nothing to settle.
func TestOfNoForest(t *testing.T) {
	s := begin(t, 40)
	f := planted(t, s)
	lay(t, f, 0, said("a1"))
	root, e := f.Checkpoint(8, []byte("xyz"))
	ok(t, "Checkpoint", e)
	lay(t, f, 0, said("b2"))
	ok(t, "Release", s.g.Release(root))
	was, ops := s.g.Free(), s.d.Ops()
	for what, none := range noForests(t, f, s) {
		for _, tree := range []int{-1, 0, 5, 6} {
			for _, key := range []string{"", "a", "b"} {
				want(t, what+": Put", none.Put(tree, []byte(key), []byte("9")), api.ErrNil)
				want(t, what+": Remove", none.Remove(tree, []byte(key)), api.ErrNil)
				wantGet(t, what, none, tree, key, "", api.ErrNil)
				wantScan(t, what, none, tree, key, "", len(key)*5, nil, api.ErrNil)
			}
		}
		for _, op := range []int{-1, 0, 9, most, most + 1} {
			want(t, what+": Tick", none.Tick(op), api.ErrNil)
			wantCheckpoint(t, what, none, op, "", api.Ref{}, api.ErrNil)
			wantCheckpoint(t, what, none, op, string(make([]byte, 12901)), api.Ref{}, api.ErrNil)
		}
		if n := none.Settle(); n != 0 {
			t.Errorf("%s: Settle: %d", what, n)
		}
		if l := none.Sizes(); len(l) != 0 {
			t.Errorf("%s: Sizes: %v", what, l)
		}
	}
	if !slices.Equal(s.g.Free(), was) || s.d.Ops() != ops {
		t.Error("the grid has changed")
	}
	wantScan(t, "the forest itself", f, 0, "", "", 5, said("a1 b2"), api.OK)
	if n := f.Settle(); n != 1 {
		t.Errorf("Settle: %d, want 1", n)
	}
}

// Rule 5: New and Open of a grid that is nil, or that nobody made, are ErrNil, ahead of all else.
func TestOfNoGrid(t *testing.T) {
	s := begin(t, 40)
	f := planted(t, s)
	lay(t, f, 0, said("a1"))
	root, e := f.Checkpoint(8, []byte("xyz"))
	ok(t, "Checkpoint", e)
	for _, out := range []bool{false, true} {
		if out {
			s.blow(t)
		}
		for what, g := range noGrids(t, s) {
			f, e := forest.New(g)
			if f != nil || e != api.ErrNil {
				t.Errorf("%s: New: %t, %v", what, f != nil, e)
			}
			for _, ref := range []api.Ref{root, {}, {Address: 1, Stamp: 8}, {Address: 99, Stamp: -1}} {
				f, x, e := forest.Open(g, ref)
				if f != nil || len(x) > 0 || e != api.ErrNil {
					t.Errorf("%s: Open %v: %t, %v, %v", what, ref, f != nil, x, e)
				}
			}
		}
	}
}

// P1: a forest whose grid is none by now answers ErrNil where it asks it, and goes on with what it has in memory.
func TestOfAGridThatWasOne(t *testing.T) {
	s := begin(t, 40)
	f := planted(t, s)
	lay(t, f, 0, said("a1"))
	_, e := f.Checkpoint(8, nil)
	ok(t, "Checkpoint", e)
	lay(t, f, 0, numbered(40, 0, "v"))
	*s.g = grid.Grid{}
	want(t, "Tick", f.Tick(9), api.ErrNil)
	wantCheckpoint(t, "no grid", f, 9, "xyz", api.Ref{}, api.ErrNil)
	wantGet(t, "no grid", f, 0, "00001", "v", api.OK)
	wantGet(t, "no grid", f, 0, "a", "", api.ErrNil)
	wantScan(t, "no grid", f, 0, "", "", 9, nil, api.ErrNil)
	if n := f.Settle(); n != 0 {
		t.Errorf("Settle: %d", n)
	}
	wantSizes(t, "no grid", f, map[int][5]int{0: {40, 1}})
	f = planted(t, begin(t, 9))
	want(t, "Tick of a forest without pairs", f.Tick(9), api.OK)
}
