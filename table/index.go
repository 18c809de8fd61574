package table

import (
	"bytes"
	"iter"
	"sort"

	"exchequer/api"
	"exchequer/grid"
)

// index is what an index block says: the data blocks, in order, and the first key of each, as a pair without a value. There is at least one; the keys rise.
type index struct {
	refs   []api.Ref
	firsts []api.Pair
}

// write writes data blocks of these bodies, and the index block of them, whose ref it tells.
func write(g *grid.Grid, bodies [][]byte, stamp int) (api.Ref, api.Errno) {
	var refs []api.Ref
	var firsts []byte
	for _, body := range bodies {
		ref, e := g.Write(api.KindData, nil, body, stamp)
		if e != api.OK {
			return api.Ref{}, e
		}
		refs = append(refs, ref)
		// A body begins with its first key just as the index has it.
		firsts = append(firsts, body[:1+int(body[0])]...)
	}
	return g.Write(api.KindIndex, refs, firsts, stamp)
}

// readIndex tells what the index block says that a root names.
func readIndex(g *grid.Grid, root api.Ref) (index, api.Errno) {
	b, e := g.Read(root)
	if e != api.OK {
		return index{}, e
	}
	firsts, are := takeAll(b.Body, takeFirst)
	if b.Kind != api.KindIndex || !are || len(firsts) == 0 || len(firsts) != len(b.Refs) {
		return index{}, api.ErrFaulty
	}
	return index{refs: b.Refs, firsts: firsts}, api.OK
}

// readData tells the pairs of the data block that a ref names.
func readData(g *grid.Grid, ref api.Ref) ([]api.Pair, api.Errno) {
	b, e := g.Read(ref)
	if e != api.OK {
		return nil, e
	}
	// A data block is without Refs: one that has some is not as said, however right its body is.
	if b.Kind != api.KindData || len(b.Refs) > 0 {
		return nil, api.ErrFaulty
	}
	return Unpack(b.Body)
}

// seek tells the last data block whose first key is not behind a key, and whether there is one.
func (x index) seek(key []byte) (at int, there bool) {
	at = sort.Search(len(x.firsts), func(i int) bool {
		return bytes.Compare(x.firsts[i].Key, key) > 0
	}) - 1
	return at, at >= 0
}

// find tells the pair of a key, of pairs that are sorted.
func find(l []api.Pair, key []byte) (api.Pair, api.Errno) {
	at := sort.Search(len(l), func(i int) bool { return bytes.Compare(l[i].Key, key) >= 0 })
	if at == len(l) || !bytes.Equal(l[at].Key, key) {
		return api.Pair{}, api.ErrMissing
	}
	return l[at], api.OK
}

// between goes through the pairs whose keys are from on, and below to. An error comes out without a pair, and nothing behind it.
func (x index) between(g *grid.Grid, from, to []byte) iter.Seq2[api.Pair, api.Errno] {
	return func(yield func(api.Pair, api.Errno) bool) {
		for i, ref := range x.refs {
			if !x.mayHave(i, from, to) {
				continue
			}
			l, e := readData(g, ref)
			if e != api.OK {
				yield(api.Pair{}, e)
				return
			}
			for _, p := range l {
				if bytes.Compare(p.Key, from) >= 0 && below(p.Key, to) && !yield(p, api.OK) {
					return
				}
			}
		}
	}
}

// mayHave tells whether a data block may have, by the index, keys that are from on, and below to.
func (x index) mayHave(at int, from, to []byte) bool {
	if !below(x.firsts[at].Key, to) {
		return false
	}
	next := at + 1
	return next == len(x.firsts) || bytes.Compare(x.firsts[next].Key, from) > 0
}

// below tells whether a key is below to, which is no bound, if it has no bytes.
func below(key, to []byte) bool { return len(to) == 0 || bytes.Compare(key, to) < 0 }
