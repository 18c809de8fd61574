package table_test

import (
	"testing"

	"exchequer/api"
	"exchequer/grid"
	"exchequer/table"
)

// Rule 5: a grid that is nil, or that nobody made, is ErrNil, ahead of all else.
func TestOfNone(t *testing.T) {
	s := begin(t, 20)
	l := heavy(6)
	r := s.built(t, l, 5)
	copied := *s.g
	refused, _ := grid.New(nil, 4)
	for what, g := range map[string]*grid.Grid{"nil": nil, "an empty one": {}, "a copy by assignment": &copied, "one that New refused": refused} {
		was := s.look(t)
		for _, root := range []api.Ref{r.Root, ref(1, 5), {}, ref(99, -1)} {
			refuseAllCalls(t, what, g, api.Run{Root: root}, api.ErrNil)
		}
		refuseBuild(t, what, g, pairs(l), 5, api.ErrNil)
		refuseBuild(t, what+", no pairs", g, nil, 5, api.ErrNil)
		refuseBuild(t, what+", a wrong stamp", g, pairs(l), -1, api.ErrNil)
		refuseBuild(t, what+", wrong pairs and a wrong stamp", g, pairs(heavy(65)), -1, api.ErrNil)
		s.unchanged(t, what, was)
	}
	wantAll(t, "the grid itself", s.g, r, l)
}

// Rule 5: so it is where the grid's disk is out, or no block is free; a grid that has no free block is one.
func TestOfNoneAndFullGrids(t *testing.T) {
	for _, how := range []int{taken, letGo} {
		s := beginAs(t, []int{how, how})
		refuseBuild(t, "no block is free", s.g, pairs(heavy(1)), 5, api.ErrFull)
		refuseBuild(t, "no block is free", s.g, nil, 5, api.ErrArg)
		s.blow(t)
		copied := *s.g
		refuseBuild(t, "a copy", &copied, pairs(heavy(1)), 5, api.ErrNil)
		refuseAllCalls(t, "a copy", &copied, api.Run{Root: ref(1, 5)}, api.ErrNil)
		want(t, "Drop", table.Drop(s.g, api.Run{Root: ref(1, 5)}), api.ErrBroken)
		s.check(t, "full and out")
	}
}
