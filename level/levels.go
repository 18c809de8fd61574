package level

import (
	"bytes"
	"iter"
	"sort"

	"exchequer/api"
	"exchequer/grid"
)

// room is how many tables a level may have, and not be over; the last one may have any.
var room = [api.MaxLevels - 1]int{4, 8, 16}

// mayGo tells whether a level's tables may go into a next one.
func mayGo(level int) bool { return level >= 0 && level < len(room) }

// none tells whether a grid is none. It asks for a block that no grid has: so nothing is read, nor wanted.
func none(g *grid.Grid) bool {
	_, e := g.Read(api.Ref{})
	return e == api.ErrNil
}

// sound tells whether a table may stand in levels.
func sound(r api.Run) bool {
	return r.Count >= 1 && isKey(r.First) && isKey(r.Last) && bytes.Compare(r.First, r.Last) <= 0
}

func isKey(b []byte) bool { return len(b) >= 1 && len(b) <= api.MaxKey }

// of tells a level's tables: none of a level that is not there.
func of(levels [][]api.Run, level int) []api.Run {
	if level >= len(levels) {
		return nil
	}
	return levels[level]
}

// tables goes through all tables, level by level, each in its order, with their levels' numbers.
func tables(levels [][]api.Run) iter.Seq2[int, api.Run] {
	return func(yield func(int, api.Run) bool) {
		for level, l := range levels {
			for _, r := range l {
				if !yield(level, r) {
					return
				}
			}
		}
	}
}

// spans tells whether a table spans a key.
func spans(r api.Run, key []byte) bool {
	return bytes.Compare(r.First, key) <= 0 && bytes.Compare(key, r.Last) <= 0
}

// spanning tells the tables that span a key that is from on, and below to. They are the levels' own.
func spanning(levels [][]api.Run, from, to []byte) []api.Run {
	var l []api.Run
	for _, r := range tables(levels) {
		// If any key is such, the lowest one that is neither ahead of First nor ahead of from is.
		lowest := r.First
		if bytes.Compare(lowest, from) < 0 {
			lowest = from
		}
		if spans(r, lowest) && (len(to) == 0 || bytes.Compare(lowest, to) < 0) {
			l = append(l, r)
		}
	}
	return l
}

// meeting tells the tables that span a key from first to last, of a level but the first one. They stand there one behind the other, and are the level's own.
func meeting(l []api.Run, first, last []byte) []api.Run {
	from := sort.Search(len(l), func(i int) bool { return bytes.Compare(l[i].Last, first) >= 0 })
	to := sort.Search(len(l), func(i int) bool { return bytes.Compare(l[i].First, last) > 0 })
	return l[from:to]
}

// spannedFrom tells whether a table of a level, which is not the first one, or of a later one spans a key.
func spannedFrom(levels [][]api.Run, level int, key []byte) bool {
	for ; level < len(levels); level++ {
		if len(meeting(levels[level], key, key)) > 0 {
			return true
		}
	}
	return false
}

// copied are the same levels, four of them, in memory of their own.
func copied(levels [][]api.Run) [][]api.Run {
	all := make([][]api.Run, api.MaxLevels)
	for level, r := range tables(levels) {
		all[level] = append(all[level], copiedTable(r))
	}
	return all
}

// copiedTables are the same tables in memory of their own.
func copiedTables(l []api.Run) []api.Run {
	var all []api.Run
	for _, r := range l {
		all = append(all, copiedTable(r))
	}
	return all
}

// copiedTable is the same table in memory of its own.
func copiedTable(r api.Run) api.Run {
	r.First, r.Last = bytes.Clone(r.First), bytes.Clone(r.Last)
	return r
}
