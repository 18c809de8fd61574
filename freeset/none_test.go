package freeset_test

import (
	"testing"

	"exchequer/api"
	"exchequer/freeset"
)

// nones are sets that no function of the package made, or none at all.
func nones(t *testing.T) map[string]*freeset.Set {
	t.Helper()
	copied := *read(t, []int{0, 1, 2})
	var none *freeset.Set
	refused, _ := freeset.New(0)
	unread, _ := freeset.Read([]byte{3, 0, 3})
	return map[string]*freeset.Set{
		"nil": nil, "an empty one": {}, "a copy by assignment": &copied, "a clone of none": none.Clone(),
		"one that New refused": refused, "one that Read refused": unread,
	}
}

// Rule 5: what no function of the package made answers ErrNil, ahead of all else, or zero values.
func TestOfNone(t *testing.T) {
	for what, s := range nones(t) {
		for range 2 {
			refuseAcquire(t, s, api.ErrNil)
			for _, block := range append(fars(), 1, 2, 3, 512) {
				want(t, what+": Take", s.Take(block), api.ErrNil)
				want(t, what+": Release", s.Release(block), api.ErrNil)
				if got := s.Is(block); got != 0 {
					t.Errorf("%s: Is(%d): %d", what, block, got)
				}
			}
			if n := s.Settle(); n != 0 {
				t.Errorf("%s: Settle: %d", what, n)
			}
			if a, b, c := s.Counts(); a != 0 || b != 0 || c != 0 {
				t.Errorf("%s: Counts: %d %d %d", what, a, b, c)
			}
			if b := s.Bytes(); len(b) != 0 {
				t.Errorf("%s: Bytes: %v", what, b)
			}
			if s.Clone() != nil {
				t.Errorf("%s: a clone of none is something", what)
			}
		}
	}
}

// What is asked of a copy by assignment is not seen at the set itself.
func TestACopyDoesNotReachTheSet(t *testing.T) {
	hows := []int{0, 1, 2}
	s := read(t, hows)
	copied := *s
	copied.Acquire()
	copied.Take(1)
	copied.Release(2)
	copied.Settle()
	wantSet(t, "calls of a copy", s, hows)
}
