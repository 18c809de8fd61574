package grid

import (
	"iter"

	"exchequer/api"
)

// Reach tells which blocks from a root on are not there.
func (g *Grid) Reach(root api.Ref) ([]api.Ref, api.Errno) {
	if e := g.asked(root); e != api.OK {
		return nil, e
	}
	var l []api.Ref
	for ref := range g.missing(root) {
		l = append(l, ref)
		if g.has(ref) {
			g.wanted.add(ref)
		}
	}
	return l, api.OK
}

// missing goes through the refs from a root on that are not there, depth first.
func (g *Grid) missing(root api.Ref) iter.Seq[api.Ref] {
	return func(yield func(api.Ref) bool) {
		// Blocks may name one another, and themselves: without this the way would have no end.
		seen := map[api.Ref]struct{}{}
		var reach func(ref api.Ref) bool
		reach = func(ref api.Ref) bool {
			if _, been := seen[ref]; been {
				return true
			}
			seen[ref] = struct{}{}
			refs, there := g.names(ref)
			if !there {
				return yield(ref)
			}
			for _, next := range refs {
				if !reach(next) {
					return false
				}
			}
			return true
		}
		reach(root)
	}
}

// names tells which refs the block names that a ref names, and whether it is there.
func (g *Grid) names(ref api.Ref) (refs []api.Ref, there bool) {
	if !g.has(ref) {
		return nil, false
	}
	b, _, e := g.load(ref)
	return b.Refs, e == api.OK
}
