package level_test

import (
	"testing"

	"exchequer/api"
	"exchequer/grid"
	"exchequer/level"
)

// noGrids are grids that are nil, or that nobody made.
func noGrids(t testing.TB, s *scene) map[string]*grid.Grid {
	t.Helper()
	copied := *s.g
	refused, _ := grid.New(nil, 4)
	return map[string]*grid.Grid{"nil": nil, "an empty one": {}, "a copy by assignment": &copied, "one that New refused": refused}
}

// Rule 5: a grid that is nil, or that nobody made, is ErrNil, ahead of all else.
func TestOfNone(t *testing.T) {
	s := begin(t, 60)
	l := s.stack(t, []string{"a1", "a2", "a3", "a4", "a5"})
	was := s.look(t)
	for what, g := range noGrids(t, s) {
		for _, l := range [][][]tab{l, nil, make([][]tab, 5), levels("1ac; 2df 3ac"), {l[0][:2]}} {
			for _, stamp := range []int{-1, 0, 5, most, most + 1} {
				all, is, e := level.Step(g, allRuns(l), stamp)
				wantLevels(t, what+": Step", all, e, nil, api.ErrNil)
				if is {
					t.Errorf("%s: Step: true", what)
				}
			}
			for _, key := range []string{"", "a", "b"} {
				p, e := level.Get(g, allRuns(l), []byte(key))
				wantPair(t, what+": Get", p, e, item{}, api.ErrNil)
				lists, e := level.Lists(g, allRuns(l), []byte(key), nil)
				wantLists(t, what+": Lists", lists, e, nil, api.ErrNil)
			}
		}
		s.unchanged(t, what, was)
	}
	s.getIs(t, "the grid itself", l, "a", item{key: "a", value: "1"}, api.OK)
}

// Rule 5: a grid all of whose blocks are taken, or whose disk is out, is one.
func TestOfFullGrids(t *testing.T) {
	s := begin(t, 8)
	l := s.stack(t, []string{"a1"})
	s.fill(t, 0)
	s.getIs(t, "full", l, "a", item{key: "a", value: "1"}, api.OK)
	s.wantStep(t, "full", l, 5)
	s.blow(t)
	s.wantStep(t, "full, and out", l, 5)
	s.wantStep(t, "full, and out", [][]tab{{l[0][0], l[0][0], l[0][0], l[0][0], l[0][0]}}, 5)
	s.getIs(t, "full, and out", l, "a", item{}, api.ErrBroken)
	copied := *s.g
	_, _, e := level.Step(&copied, nil, 5)
	want(t, "a copy whose disk is out", e, api.ErrNil)
}
