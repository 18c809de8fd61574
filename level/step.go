package level

import (
	"slices"

	"exchequer/api"
	"exchequer/grid"
	"exchequer/merge"
	"exchequer/table"
)

// step does what was chosen.
func step(g *grid.Grid, levels [][]api.Run, p api.Plan, stamp int) ([][]api.Run, api.Errno) {
	l, e := merged(g, levels, p)
	if e != api.OK {
		return nil, e
	}
	fresh, e := build(g, l, stamp)
	if e != api.OK {
		return nil, e
	}
	for _, r := range slices.Concat(p.From, p.Into) {
		if e := table.Drop(g, r); e != api.OK {
			return nil, e
		}
	}
	return Replace(levels, p, fresh)
}

// merged tells the pairs that the tables of a plan come to.
func merged(g *grid.Grid, levels [][]api.Run, p api.Plan) ([]api.Pair, api.Errno) {
	var lists [][]api.Pair
	for _, r := range slices.Concat(p.From, p.Into) {
		l, e := table.All(g, r)
		if e != api.OK {
			return nil, e
		}
		lists = append(lists, l)
	}
	l, e := merge.Merge(lists, false)
	if e != api.OK || !p.Drop {
		return l, e
	}
	// Drop looks at what From spans, but tables of Into may have marks beyond that: dropped, these would let come back what a later level has of their keys.
	return slices.DeleteFunc(l, func(q api.Pair) bool {
		return q.Gone && !spannedFrom(levels, p.Level+2, q.Key)
	}), api.OK
}

// build writes pairs as tables, if there is room for all of them.
func build(g *grid.Grid, l []api.Pair, stamp int) ([]api.Run, api.Errno) {
	parts, e := merge.Cut(l, api.MaxTable)
	if e != api.OK {
		return nil, e
	}
	if free, _, _ := g.Counts(); blocks(parts) > free {
		return nil, api.ErrFull
	}
	var fresh []api.Run
	for _, part := range parts {
		r, e := table.Build(g, part, stamp)
		if e != api.OK {
			return nil, e
		}
		fresh = append(fresh, r)
	}
	return fresh, api.OK
}

// blocks tells how many blocks parts have, as tables: each its data blocks, and an index block.
func blocks(parts [][]api.Pair) int {
	n := 0
	for _, part := range parts {
		// What may be no table has none, and is refused when it is built.
		bodies, _ := table.Pack(part)
		n += len(bodies) + 1
	}
	return n
}
