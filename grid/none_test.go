package grid_test

import (
	"testing"

	"exchequer/api"
	"exchequer/grid"
)

// nones are grids that no function of the package made, or none at all.
func nones(t *testing.T) map[string]*grid.Grid {
	t.Helper()
	g, _ := fresh(t, 4)
	copied := *g
	refused, _ := grid.New(nil, 4)
	unread, _ := grid.Open(newDisk(t, 120), 4, []byte{4, 0})
	return map[string]*grid.Grid{
		"nil": nil, "an empty one": {}, "a copy by assignment": &copied,
		"one that New refused": refused, "one that Open refused": unread,
	}
}

// Rule 5: what no function of the package made answers ErrNil, ahead of all else, or zero values.
func TestOfNone(t *testing.T) {
	for what, g := range nones(t) {
		for range 2 {
			for _, b := range append(refused(), of(ref(0, 5), 2, 9)) {
				refuseWrite(t, what, g, b, api.ErrNil)
			}
			for _, r := range append(strangers(4), ref(1, 5), ref(4, 0)) {
				refuseRead(t, what, g, r, api.ErrNil)
				refuseReach(t, what, g, r, api.ErrNil)
				want(t, what+": Install", g.Install(r, laid(of(r, 1, 2))), api.ErrNil)
				want(t, what+": Install of no bytes", g.Install(r, nil), api.ErrNil)
				want(t, what+": Release", g.Release(r), api.ErrNil)
			}
			want(t, what+": Flush", g.Flush(), api.ErrNil)
			for _, b := range append(wrongSets(4), setOf(all(4, free)), setOf(all(4, taken))) {
				want(t, what+": Reset", g.Reset(b), api.ErrNil)
			}
			if n := g.Settle(); n != 0 {
				t.Errorf("%s: Settle: %d", what, n)
			}
			if a, b, c := g.Counts(); a != 0 || b != 0 || c != 0 {
				t.Errorf("%s: Counts: %d %d %d", what, a, b, c)
			}
			if b := g.Free(); len(b) != 0 {
				t.Errorf("%s: Free: %v", what, b)
			}
			wantWanted(t, what, g)
		}
	}
}

// What is asked of a copy by assignment is not seen at the grid itself, nor at its disk, be that up or out.
func TestACopyDoesNotReachTheGrid(t *testing.T) {
	for _, out := range []bool{false, true} {
		d := newDisk(t, 120)
		g := opened(t, d, []int{taken, free, letGo, free})
		refuseRead(t, "nothing there", g, ref(1, 1), api.ErrFaulty)
		if out {
			blow(t, d)
		}
		was := look(t, d)
		copied := *g
		refuseWrite(t, "a copy", &copied, of(ref(0, 1), 0, 1), api.ErrNil)
		refuseRead(t, "a copy", &copied, ref(2, 1), api.ErrNil)
		refuseReach(t, "a copy", &copied, ref(3, 1), api.ErrNil)
		want(t, "Install", copied.Install(ref(1, 1), laid(of(ref(1, 1), 0, 1))), api.ErrNil)
		want(t, "Release", copied.Release(ref(1, 1)), api.ErrNil)
		want(t, "Reset", copied.Reset(setOf(all(4, free))), api.ErrNil)
		want(t, "Flush", copied.Flush(), api.ErrNil)
		copied.Settle()
		wantSet(t, "calls of a copy", g, []int{taken, free, letGo, free})
		wantWanted(t, "calls of a copy", g, ref(1, 1))
		wantSame(t, "calls of a copy", look(t, d), was)
	}
}
