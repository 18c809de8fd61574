package level

import (
	"bytes"
	"cmp"
	"slices"

	"exchequer/api"
)

// choice is what is chosen of a level: tables of it, the keys from the least to the greatest one that these span, and the tables of the next one that go with them. The tables are the levels' own.
type choice struct {
	level       int
	from, into  []api.Run
	first, last []byte
	drop        bool
}

// choose tells what is chosen of a level that is not the last one, and has tables.
func choose(levels [][]api.Run, level int) choice {
	next := of(levels, level+1)
	c := choice{level: level, drop: true}
	if level == 0 {
		c.take(of(levels, level)...)
	} else {
		c.take(fewest(of(levels, level), next))
	}
	c.into = c.met(next)
	for behind := level + 2; behind < len(levels); behind++ {
		c.drop = c.drop && len(c.met(levels[behind])) == 0
	}
	return c
}

// fewest tells the table that overlaps the fewest of the next level, of several the first.
func fewest(l, next []api.Run) api.Run {
	return slices.MinFunc(l, func(a, b api.Run) int {
		return cmp.Compare(len(meeting(next, a.First, a.Last)), len(meeting(next, b.First, b.Last)))
	})
}

// take puts tables behind those that were chosen.
func (c *choice) take(l ...api.Run) {
	for _, r := range l {
		if len(c.from) == 0 {
			c.first, c.last = r.First, r.Last
		}
		if bytes.Compare(r.First, c.first) < 0 {
			c.first = r.First
		}
		if bytes.Compare(r.Last, c.last) > 0 {
			c.last = r.Last
		}
		c.from = append(c.from, r)
	}
}

// met tells the tables of a later level that overlap what the chosen ones span.
func (c choice) met(l []api.Run) []api.Run { return meeting(l, c.first, c.last) }

// plan tells the choice in memory of its own.
func (c choice) plan() api.Plan {
	return api.Plan{Level: c.level, From: copiedTables(c.from), Into: copiedTables(c.into), Drop: c.drop}
}
