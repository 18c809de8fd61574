package grid

import (
	"slices"

	"exchequer/api"
)

// wants are refs, each once, in the order in which they came.
type wants struct {
	order []api.Ref
	has   map[api.Ref]struct{}
}

func noWants() wants { return wants{has: map[api.Ref]struct{}{}} }

// add puts a ref behind all others. One that is there stays where it is.
func (w *wants) add(ref api.Ref) {
	if _, there := w.has[ref]; there {
		return
	}
	w.has[ref] = struct{}{}
	w.order = append(w.order, ref)
}

// drop takes a ref away, if it is there.
func (w *wants) drop(ref api.Ref) {
	if _, there := w.has[ref]; !there {
		return
	}
	delete(w.has, ref)
	at := slices.Index(w.order, ref)
	w.order = slices.Delete(w.order, at, at+1)
}

func (w *wants) list() []api.Ref { return slices.Clone(w.order) }
