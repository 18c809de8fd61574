package level_test

import (
	"slices"
	"sort"
	"testing"

	"exchequer/api"
	"exchequer/table"
)

// The functions that follow tell by the chapter's words what level's calls must tell.

// four are levels as four of them.
func four(l [][]tab) [][]tab {
	all := make([][]tab, 4)
	copy(all, l)
	return all
}

// mayBe tells whether levels may be.
func mayBe(l [][]tab) bool {
	for at, one := range l {
		for i, x := range one {
			if x.count < 1 || len(x.first) < 1 || len(x.first) > 32 || len(x.last) < 1 || len(x.last) > 32 || x.last < x.first {
				return false
			}
			if at > 0 && i > 0 && one[i-1].last >= x.first {
				return false
			}
		}
	}
	return len(l) <= 4
}

// over tells the first level that is over.
func over(l [][]tab) (int, bool) {
	if mayBe(l) {
		all := four(l)
		switch {
		case len(all[0]) > 4:
			return 0, true
		case len(all[1]) > 8:
			return 1, true
		case len(all[2]) > 16:
			return 2, true
		}
	}
	return 0, false
}

// has tells whether a table spans a key.
func (x tab) has(key string) bool { return x.first <= key && key <= x.last }

// overlap tells whether some key is spanned by both: if one is, the First of one of them is.
func overlap(x, y tab) bool {
	return x.has(y.first) && y.has(y.first) || x.has(x.first) && y.has(x.first)
}

// overlapping are the tables of a list that overlap a span.
func overlapping(l []tab, span tab) []tab {
	var all []tab
	for _, x := range l {
		if overlap(x, span) {
			all = append(all, x)
		}
	}
	return all
}

// plan is api's Plan that can be told.
type plan struct {
	level      int
	from, into []tab
	drop       bool
}

func planOf(p api.Plan) plan { return plan{p.Level, tabs(p.From), tabs(p.Into), p.Drop} }

func (p plan) plan() api.Plan {
	return api.Plan{Level: p.level, From: runs(p.from), Into: runs(p.into), Drop: p.drop}
}

// chosen is what is chosen of a level, if that may be.
func chosen(l [][]tab, at int) (plan, bool) {
	if !mayBe(l) || at < 0 || at > 2 || len(four(l)[at]) == 0 {
		return plan{}, false
	}
	all := four(l)
	p := plan{level: at, from: all[at], drop: true}
	if at > 0 {
		counts := []int{}
		for _, x := range all[at] {
			counts = append(counts, len(overlapping(all[at+1], x)))
		}
		i := slices.Index(counts, slices.Min(counts))
		p.from = all[at][i : i+1]
	}
	span := tab{first: p.from[0].first, last: p.from[0].last}
	for _, x := range p.from {
		span.first, span.last = min(span.first, x.first), max(span.last, x.last)
	}
	p.into = overlapping(all[at+1], span)
	p.drop = len(overlapping(slices.Concat(all[at+2:]...), span)) == 0
	return p, true
}

// among tells whether a list has a table of this Root.
func among(l []tab, x tab) bool {
	return slices.ContainsFunc(l, func(y tab) bool { return x.root == y.root })
}

// without are the tables of a list whose Roots another one has not.
func without(l, others []tab) []tab {
	var left []tab
	for _, x := range l {
		if !among(others, x) {
			left = append(left, x)
		}
	}
	return left
}

// replaced are levels with other tables in the place of a plan's, if that may be.
func replaced(l [][]tab, p plan, fresh []tab) ([][]tab, bool) {
	if !mayBe(l) || p.level < 0 || p.level > 2 {
		return nil, false
	}
	all := four(l)
	if len(without(p.from, all[p.level])) > 0 || len(without(p.into, all[p.level+1])) > 0 {
		return nil, false
	}
	all[p.level] = without(all[p.level], p.from)
	next := slices.Concat(without(all[p.level+1], p.into), fresh)
	sort.SliceStable(next, func(i, j int) bool { return next[i].first < next[j].first })
	all[p.level+1] = next
	return all, mayBe(all)
}

// spanned are the tables that span a key that is from on, and below to.
func spanned(l [][]tab, from, to string) []tab {
	var all []tab
	if !mayBe(l) {
		return nil
	}
	for _, x := range slices.Concat(l...) {
		// If a table spans such a key, its First is one, or from is.
		for _, key := range []string{x.first, from} {
			if x.has(key) && key >= from && (to == "" || key < to) {
				all = append(all, x)
				break
			}
		}
	}
	return all
}

// get is what Get must tell of a grid that is there; the scene is asked.
func (s *scene) get(l [][]tab, key string) (item, api.Errno) {
	if !mayBe(l) {
		return item{}, api.ErrArg
	}
	for _, x := range slices.Concat(l...) {
		if !x.has(key) {
			continue
		}
		if p, e := table.Get(s.g, x.run(), []byte(key)); e != api.ErrMissing {
			return items([]api.Pair{p})[0], e
		}
	}
	return item{}, api.ErrMissing
}

// lists is what Lists must tell of a grid that is there; the scene is asked.
func (s *scene) lists(l [][]tab, from, to string) ([][]item, api.Errno) {
	if !mayBe(l) {
		return nil, api.ErrArg
	}
	var all [][]item
	for _, x := range spanned(l, from, to) {
		one, e := table.Between(s.g, x.run(), []byte(from), []byte(to))
		if e != api.OK {
			return nil, e
		}
		all = append(all, items(one))
	}
	return all, api.OK
}

// packed tells how many data blocks pairs have, by the words of chapter 13.
func packed(l []item) int {
	blocks, last := 0, 861
	for _, p := range l {
		size := 2 + len(p.key) + len(p.value)
		if last+size > 860 {
			blocks, last = blocks+1, 0
		}
		last += size
	}
	return blocks
}

// merged are the pairs that a plan's tables come to: those of the newest tables, sorted. Where marks are dropped, those stay that a later level's table spans (P15.6).
func (s *scene) merged(t testing.TB, l [][]tab, p plan) ([]item, api.Errno) {
	t.Helper()
	there := map[string]item{}
	count := 0
	sorted := true
	for _, x := range slices.Concat(p.from, p.into) {
		one, e := table.All(s.g, x.run())
		if e != api.OK {
			return nil, e
		}
		for i, q := range items(one) {
			if _, is := there[q.key]; !is {
				there[q.key] = q
			}
			sorted = sorted && (i == 0 || string(one[i-1].Key) < q.key)
		}
		count += len(one)
	}
	if len(p.from)+len(p.into) > 32 || count > 4096 {
		return nil, api.ErrLong
	}
	if !sorted {
		return nil, api.ErrArg
	}
	var all []item
	for _, q := range there {
		hides := slices.ContainsFunc(slices.Concat(four(l)[p.level+2:]...), func(x tab) bool { return x.has(q.key) })
		if !p.drop || !q.gone || hides {
			all = append(all, q)
		}
	}
	sort.Slice(all, func(i, j int) bool { return all[i].key < all[j].key })
	return all, api.OK
}

// step does to a scene what Step must do, and tells what it must.
func (s *scene) step(t testing.TB, l [][]tab, stamp int) ([][]tab, bool, api.Errno) {
	t.Helper()
	if !mayBe(l) || stamp < 0 || stamp > most {
		return nil, false, api.ErrArg
	}
	at, is := over(l)
	if !is {
		return four(l), false, api.OK
	}
	p, _ := chosen(l, at)
	left, e := s.merged(t, l, p)
	if e != api.OK {
		return nil, false, e
	}
	var parts [][]item
	need := 0
	for part := range slices.Chunk(left, 64) {
		parts = append(parts, part)
		need += packed(part) + 1
	}
	if free, _, _ := s.g.Counts(); need > free {
		return nil, false, api.ErrFull
	}
	var fresh []tab
	for _, part := range parts {
		r, e := table.Build(s.g, pairs(part), stamp)
		if e != api.OK {
			return nil, false, e
		}
		fresh = append(fresh, tabOf(r))
	}
	for _, x := range slices.Concat(p.from, p.into) {
		if e := table.Drop(s.g, x.run()); e != api.OK {
			return nil, false, e
		}
	}
	all, may := replaced(l, p, fresh)
	if !may {
		return nil, false, api.ErrArg
	}
	return all, true, api.OK
}
