package forest

import (
	"iter"

	"exchequer/api"
	"exchequer/grid"
	"exchequer/level"
	"exchequer/memtable"
	"exchequer/table"
)

// tree is a table in memory, and levels: four lists of tables. Levels are never written again, but put in place whole.
type tree struct {
	memory *memtable.Table
	levels [][]api.Run
}

// state is what a forest has beside its grid: its trees, and the last checkpoint's blocks, in the order in which they were written, the root behind all others. A copy of it by value may be given other tables and lists, and this one stays as it is.
type state struct {
	trees [api.Trees]tree
	last  []api.Ref
}

// bare is the state of a forest without pairs, that has no checkpoint.
func bare() state {
	var s state
	for t := range s.each() {
		t.memory, t.levels = memtable.New(), make([][]api.Run, api.MaxLevels)
	}
	return s
}

// each goes through the trees.
func (s *state) each() iter.Seq[*tree] {
	return func(yield func(*tree) bool) {
		for i := range s.trees {
			if !yield(&s.trees[i]) {
				return
			}
		}
	}
}

// root is the root of the last checkpoint, which must be there.
func (s *state) root() api.Ref { return s.last[len(s.last)-1] }

// writeOut makes a table on the grid of the pairs in memory, if there are at least so many.
func (t *tree) writeOut(g *grid.Grid, op, least int) api.Errno {
	if t.memory.Size() < least {
		return api.OK
	}
	r, e := table.Build(g, t.memory.All(), op)
	if e != api.OK {
		return e
	}
	levels, e := level.Add(t.levels, r)
	if e != api.OK {
		return e
	}
	t.memory, t.levels = memtable.New(), levels
	return api.OK
}

// step merges what is over, once.
func (t *tree) step(g *grid.Grid, op int) api.Errno {
	levels, _, e := level.Step(g, t.levels, op)
	if e != api.OK {
		return e
	}
	t.levels = levels
	return api.OK
}

// checkpoint writes all out, and a checkpoint's blocks in the place of the last one's.
func (s *state) checkpoint(g *grid.Grid, op int, extra []byte) api.Errno {
	for t := range s.each() {
		if e := t.writeOut(g, op, 1); e != api.OK {
			return e
		}
	}
	for _, ref := range s.last {
		if e := g.Release(ref); e != api.OK {
			return e
		}
	}
	w := writer{g: g, op: op}
	if e := w.checkpoint(s, extra); e != api.OK {
		return e
	}
	s.last = w.written
	return g.Flush()
}
