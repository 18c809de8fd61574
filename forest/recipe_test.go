package forest_test

import (
	"slices"
	"testing"

	"exchequer/api"
)

// piece is a block of a checkpoint, without the ref of the next part's.
type piece struct {
	kind int
	refs []api.Ref
	body string
}

// recipe is a checkpoint as it may be laid by hand. A block of free ones, or a root, of the kind 0 is as it must be.
type recipe struct {
	extra, manifest []piece
	free, root      piece
}

// cook writes the blocks of a recipe in the order of a checkpoint's, and tells the root.
func (s *scene) cook(t testing.TB, r recipe, op int) api.Ref {
	t.Helper()
	var first [2][]api.Ref
	for i, l := range [][]piece{r.extra, r.manifest} {
		for _, p := range slices.Backward(l) {
			first[i] = []api.Ref{s.write(t, p.kind, slices.Concat(p.refs, first[i]), p.body, op)}
		}
	}
	if r.free.kind == 0 {
		r.free = piece{kind: api.KindFree, body: string(freeThen(s.g.Free()))}
	}
	free := s.write(t, r.free.kind, r.free.refs, r.free.body, op)
	if r.root.kind == 0 {
		r.root = piece{api.KindRoot, slices.Concat([]api.Ref{free}, first[1], first[0]), rootBody(op, len(r.manifest) > 0, len(r.extra) > 0)}
	}
	return s.write(t, r.root.kind, r.root.refs, r.root.body, op)
}

// told is the recipe of a checkpoint that is there: its chains, without what they name as next ones.
func (s *scene) told(t testing.TB, root api.Ref) recipe {
	t.Helper()
	read := func(ref api.Ref) api.GridBlock {
		b, e := s.g.Read(ref)
		ok(t, "grid.Read", e)
		return b
	}
	var r recipe
	x := read(root)
	next := x.Refs[1:]
	if x.Body[4]%2 == 1 {
		ref, last := next[0], false
		for next = next[1:]; !last; {
			b := read(ref)
			n := tablesIn(string(b.Body))
			r.manifest = append(r.manifest, piece{b.Kind, b.Refs[:n], string(b.Body)})
			if last = n == len(b.Refs); !last {
				ref = b.Refs[n]
			}
		}
	}
	for len(next) > 0 {
		b := read(next[0])
		r.extra = append(r.extra, piece{kind: b.Kind, body: string(b.Body)})
		next = b.Refs
	}
	return r
}

// tablesIn tells how many tables a manifest block's body has, which must be one.
func tablesIn(s string) int {
	n := 0
	for ; len(s) > 0; n++ {
		first := int(s[3])
		s = s[5+first+int(s[4+first]):]
	}
	return n
}

// clone is a recipe of its own that is the same.
func (r recipe) clone() recipe {
	for _, l := range []*[]piece{&r.extra, &r.manifest} {
		*l = slices.Clone(*l)
		for i := range *l {
			(*l)[i].refs = slices.Clone((*l)[i].refs)
		}
	}
	return r
}
