package forest

import (
	"bytes"
	"iter"
	"slices"

	"exchequer/api"
	"exchequer/grid"
	"exchequer/level"
)

// How many blocks of a kind a checkpoint may have.
const (
	maxManifests = 64
	maxExtras    = 16
)

// reader takes in what a checkpoint's blocks say.
type reader struct {
	g     *grid.Grid
	now   state
	extra []byte
	// wrong is whether a block is not as it should be. It is told when all are read: that a later one is not there goes ahead of it.
	wrong bool
}

// read takes in a checkpoint, and tells its set of free blocks.
func (r *reader) read(root api.Ref) (free []byte, e api.Errno) {
	b, e := r.g.Read(root)
	if e != api.OK {
		return nil, e
	}
	x, is := named(b)
	if !is {
		return nil, api.ErrFaulty
	}
	f, e := r.g.Read(x.free)
	if e != api.OK {
		return nil, e
	}
	r.wrong = f.Kind != api.KindFree || len(f.Refs) > 0
	manifests, e := backward(r.chain(x.manifest, maxManifests, r.takeTables))
	if e != api.OK {
		return nil, e
	}
	extras, e := backward(r.chain(x.extra, maxExtras, r.takeExtra))
	if e != api.OK {
		return nil, e
	}
	for t := range r.now.each() {
		r.wrong = r.wrong || level.Check(t.levels) != api.OK
	}
	r.now.last = slices.Concat(extras, manifests, []api.Ref{x.free, root})
	return f.Body, api.OK
}

// named tells which blocks a root names, and whether it is as it should be.
func named(b api.GridBlock) (x names, is bool) {
	if b.Kind != api.KindRoot || len(b.Refs) == 0 || len(b.Body) <= opSize {
		return names{}, false
	}
	x = names{free: b.Refs[0], extra: b.Refs[1:]}
	if b.Body[opSize]&hasManifest != 0 && len(x.extra) > 0 {
		x.manifest, x.extra = x.extra[:1], x.extra[1:]
	}
	// What a body says otherwise than its stamp and these Refs do is told by the body that they would have.
	return x, len(x.extra) <= 1 && bytes.Equal(b.Body, rootPart(b.Ref.Stamp, x).body)
}

// chain goes through a chain's blocks, of which there may be at most so many, from the one on that first names, and tells their refs. take takes in what a block says, and tells which others it names, and whether it is as it should be. An error comes out without a ref, and nothing behind it.
func (r *reader) chain(first []api.Ref, most int, take func(api.GridBlock) ([]api.Ref, bool)) iter.Seq2[api.Ref, api.Errno] {
	return func(yield func(api.Ref, api.Errno) bool) {
		next, is := first, true
		for left := most; is && len(next) > 0; left-- {
			if left == 0 || len(next) > 1 {
				is = false
				break
			}
			b, e := r.g.Read(next[0])
			if !yield(b.Ref, e) || e != api.OK {
				return
			}
			next, is = take(b)
		}
		r.wrong = r.wrong || !is
	}
}

// backward tells the refs of a chain, the last one first, or the first error.
func backward(chain iter.Seq2[api.Ref, api.Errno]) ([]api.Ref, api.Errno) {
	var l []api.Ref
	for ref, e := range chain {
		if e != api.OK {
			return nil, e
		}
		l = append(l, ref)
	}
	slices.Reverse(l)
	return l, api.OK
}

// takeTables takes in a manifest block: its tables stand behind those of their levels that came ahead.
func (r *reader) takeTables(b api.GridBlock) (others []api.Ref, is bool) {
	if b.Kind != api.KindManifest {
		return nil, false
	}
	refs, body := b.Refs, b.Body
	for n := 0; len(body) > 0; n++ {
		p, rest, whole := takeTable(body)
		if !whole || n == maxPart || len(refs) == 0 {
			return nil, false
		}
		p.run.Root, refs, body = refs[0], refs[1:], rest
		levels := r.now.trees[p.tree].levels
		levels[p.level] = append(levels[p.level], p.run)
	}
	return refs, true
}

// takeExtra takes in an extra block: all but the last one are full.
func (r *reader) takeExtra(b api.GridBlock) (others []api.Ref, is bool) {
	full := len(b.Body) == api.MaxBlockBody
	if b.Kind != api.KindExtra || len(b.Body) == 0 || len(b.Refs) > 0 && !full {
		return nil, false
	}
	r.extra = append(r.extra, b.Body...)
	return b.Refs, true
}
