package memtable

import (
	"bytes"
	"iter"
	"slices"

	"exchequer/api"
)

// Check tells whether a pair may be.
func Check(p api.Pair) api.Errno {
	most := api.MaxValue
	if p.Gone {
		most = 0
	}
	if len(p.Key) < 1 || len(p.Key) > api.MaxKey || len(p.Value) > most {
		return api.ErrArg
	}
	return api.OK
}

// Sorted tells whether pairs are sorted.
func Sorted(l []api.Pair) bool {
	for i := 1; i < len(l); i++ {
		if bytes.Compare(l[i-1].Key, l[i].Key) >= 0 {
			return false
		}
	}
	return true
}

// seek tells where the pair of a key stands, or would stand, and whether it is there.
func (t *Table) seek(key []byte) (at int, there bool) {
	return slices.BinarySearchFunc(t.pairs, key, func(p api.Pair, key []byte) int {
		return bytes.Compare(p.Key, key)
	})
}

// between goes through the pairs whose keys are from on, and below to. They are the table's own.
func (t *Table) between(from, to []byte) iter.Seq[api.Pair] {
	return func(yield func(api.Pair) bool) {
		at, _ := t.seek(from)
		for _, p := range t.pairs[at:] {
			if !below(p.Key, to) || !yield(p) {
				return
			}
		}
	}
}

// below tells whether a key is below to, which is no bound, if it has no bytes.
func below(key, to []byte) bool { return len(to) == 0 || bytes.Compare(key, to) < 0 }

// copied is the same pair in memory of its own.
func copied(p api.Pair) api.Pair {
	return api.Pair{Key: fresh(p.Key), Value: fresh(p.Value), Gone: p.Gone}
}

// fresh tells the same bytes in new memory; of none it is nil, whether they were nil or not.
func fresh(b []byte) []byte { return append([]byte(nil), b...) }
