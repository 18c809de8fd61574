package memtable_test

import (
	"testing"

	"exchequer/api"
	"exchequer/memtable"
)

// nones are tables that no function of the package made, or none at all.
func nones(t *testing.T) map[string]*memtable.Table {
	t.Helper()
	m, _ := crowd(t, 5)
	copied := *m
	var none *memtable.Table
	return map[string]*memtable.Table{
		"nil": nil, "an empty one": {}, "a copy by assignment": &copied, "a clone of none": none.Clone(), "a clone of a copy": copied.Clone(),
	}
}

// Rule 5: what no function of the package made answers ErrNil, ahead of all else, or zero values.
func TestOfNone(t *testing.T) {
	for what, m := range nones(t) {
		for _, key := range append(strange(), append(edgeKeys(), crowdKey(0), crowdKey(4))...) {
			k := []byte(key)
			want(t, what+": Put", m.Put(k, []byte("v")), api.ErrNil)
			want(t, what+": Put of a long value", m.Put(k, make([]byte, 129)), api.ErrNil)
			want(t, what+": Remove", m.Remove(k), api.ErrNil)
			if p, e := m.Get(k); e != api.ErrNil || p.Key != nil || p.Value != nil || p.Gone {
				t.Errorf("%s: Get: %v, %v", what, p, e)
			}
			if l := m.Between(k, nil); len(l) != 0 {
				t.Errorf("%s: Between: %v", what, l)
			}
		}
		if l := m.All(); len(l) != 0 {
			t.Errorf("%s: All: %v", what, l)
		}
		if m.Size() != 0 {
			t.Errorf("%s: Size %d", what, m.Size())
		}
		if m.Clone() != nil {
			t.Errorf("%s: a clone of none is something", what)
		}
	}
}

// What is asked of a copy by assignment is not seen at the table itself.
func TestACopyDoesNotReachTheTable(t *testing.T) {
	m, p := crowd(t, 5)
	copied := *m
	for key := range p {
		copied.Remove([]byte(key))
	}
	copied.Put([]byte("n"), nil)
	wantTable(t, "calls of a copy", m, p)
}
