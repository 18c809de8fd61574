package merge

import (
	"bytes"
	"cmp"
	"iter"

	"exchequer/api"
)

// place is how far a list was gone through: the pairs that are left, of which there is at least one, and which of the lists it is, the newest one being 0.
type place struct {
	left []api.Pair
	list int
}

// least is the key that a list has next.
func (p place) least() []byte { return p.left[0].Key }

// ahead tells whether a place's next pair is ahead of another one's: by its key, and of one key the newer list's.
func (p place) ahead(q place) bool {
	return cmp.Or(bytes.Compare(p.least(), q.least()), cmp.Compare(p.list, q.list)) < 0
}

// heap has the places in lists that have pairs left: no place is ahead of the one it hangs on, that of i being (i-1)/2; so none is ahead of the first one.
type heap struct{ places []place }

// heapOf is the heap of sorted lists' fronts.
func heapOf(lists [][]api.Pair) *heap {
	h := &heap{}
	for i, l := range lists {
		if len(l) > 0 {
			h.places = append(h.places, place{left: l, list: i})
		}
	}
	for at := len(h.places)/2 - 1; at >= 0; at-- {
		h.sink(at)
	}
	return h
}

// sink puts a place, below which all is in order, below those that are ahead of it.
func (h *heap) sink(at int) {
	for {
		first := at
		for below := 2*at + 1; below <= 2*at+2 && below < len(h.places); below++ {
			if h.places[below].ahead(h.places[first]) {
				first = below
			}
		}
		if first == at {
			return
		}
		h.places[at], h.places[first] = h.places[first], h.places[at]
		at = first
	}
}

// more tells whether any list has pairs left.
func (h *heap) more() bool { return len(h.places) > 0 }

// take takes the pair that is ahead of all others. There must be one.
func (h *heap) take() api.Pair {
	top := &h.places[0]
	p := top.left[0]
	top.left = top.left[1:]
	if len(top.left) == 0 {
		last := len(h.places) - 1
		*top = h.places[last]
		h.places = h.places[:last]
	}
	h.sink(0)
	return p
}

// counting goes through the pairs that count, by their keys, of lists that are sorted. They are the lists' own.
func counting(lists [][]api.Pair) iter.Seq[api.Pair] {
	return func(yield func(api.Pair) bool) {
		h := heapOf(lists)
		for h.more() {
			p := h.take()
			// What follows of the same key stands in older lists.
			for h.more() && bytes.Equal(h.places[0].least(), p.Key) {
				h.take()
			}
			if !yield(p) {
				return
			}
		}
	}
}
