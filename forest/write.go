package forest

import (
	"slices"

	"exchequer/api"
	"exchequer/freeset"
	"exchequer/grid"
)

// writer writes a checkpoint's blocks, and remembers which it wrote, in order.
type writer struct {
	g       *grid.Grid
	op      int
	written []api.Ref
}

// checkpoint writes the blocks that say what a state's tables are, and the extra bytes; the root is the last one.
func (w *writer) checkpoint(s *state, extra []byte) api.Errno {
	var x names
	var e api.Errno
	if x.extra, e = w.chain(api.KindExtra, extraParts(extra)); e != api.OK {
		return e
	}
	if x.manifest, e = w.chain(api.KindManifest, manifestParts(s)); e != api.OK {
		return e
	}
	if x.free, e = w.write(api.KindFree, part{body: freeThen(w.g)}); e != api.OK {
		return e
	}
	_, e = w.write(api.KindRoot, rootPart(w.op, x))
	return e
}

// chain writes parts, the last one first, each of which names the next one's block behind what it names itself. It tells the first one's block: a list of one, or of none, if there are no parts.
func (w *writer) chain(kind int, parts []part) ([]api.Ref, api.Errno) {
	var next []api.Ref
	for _, p := range slices.Backward(parts) {
		p.refs = slices.Concat(p.refs, next)
		ref, e := w.write(kind, p)
		if e != api.OK {
			return nil, e
		}
		next = []api.Ref{ref}
	}
	return next, api.OK
}

// write writes a part as a block.
func (w *writer) write(kind int, p part) (api.Ref, api.Errno) {
	ref, e := w.g.Write(kind, p.refs, p.body, w.op)
	if e != api.OK {
		return api.Ref{}, e
	}
	w.written = append(w.written, ref)
	return ref, api.OK
}

// freeThen is the set of free blocks as bytes, as it is when two more blocks are taken, and all is settled. Where there is no room for both, writing them will say so.
func freeThen(g *grid.Grid) []byte {
	set, _ := freeset.Read(g.Free())
	set.Acquire()
	set.Acquire()
	set.Settle()
	return set.Bytes()
}
