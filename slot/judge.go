package slot

import (
	"slices"

	"exchequer/api"
	"exchequer/header"
)

// kind is what the bytes are that stand as a slot's header, or as its prepare.
type kind int

const (
	broken    kind = iota // they are not whole
	unwritten             // they say that the slot is unwritten
	prepared              // they are those of a prepare of the slot
)

// found is what was found as a slot's header, or as its prepare: of a prepare its Op and View, too, and its header's bytes, as two that are unlike may have one Op and one View.
type found struct {
	kind     kind
	op, view int
	head     [api.HeaderSize]byte
}

// foundOf tells what is found of a prepare that has this header, whose bytes stand at the front of b.
func foundOf(h api.Header, b []byte) found {
	f := found{kind: prepared, op: h.Op, view: h.View}
	copy(f.head[:], b)
	return f
}

// findHead tells what stands as the header of the slot n.
func findHead(b []byte, n int) found {
	h, e := header.Head(b)
	switch {
	case e != api.OK:
		return found{}
	case isPrepare(h, n):
		return foundOf(h, b)
	case isUnwritten(b, n):
		return found{kind: unwritten}
	default:
		return found{}
	}
}

// findPrepare tells what stands as the prepare of the slot n.
func findPrepare(b []byte, n int) found {
	m, ok := Prepare(b, n)
	if !ok {
		return found{}
	}
	return foundOf(m.H, b)
}

// isUnwritten tells whether bytes say that the slot n is unwritten. All of them count, not just the header that they are: that does not tell its body's seal.
func isUnwritten(b []byte, n int) bool {
	want, e := Unwritten(n)
	return e == api.OK && string(b) == string(want)
}

// same tells whether two prepares have one header, byte by byte.
func (f found) same(other found) bool {
	return string(f.head[:]) == string(other.head[:])
}

// older tells whether a prepare is one that another one has taken the place of.
func (f found) older(other found) bool {
	return f.op < other.op || f.op == other.op && f.view < other.view
}

// state tells a slot to be in a state, with a prepare's Op and View.
func (f found) state(state int, mend bool) api.SlotState {
	return api.SlotState{State: state, Op: f.op, View: f.view, Mend: mend}
}

// noughts tells whether all bytes are noughts.
func noughts(b []byte) bool {
	var none [api.Sector]byte
	for part := range slices.Chunk(b, len(none)) {
		if string(part) != string(none[:len(part)]) {
			return false
		}
	}
	return true
}

// Judge tells how a slot is.
func Judge(head, prepare []byte, n int) api.SlotState {
	if !isSlot(n) {
		return api.SlotState{}
	}
	h, p := findHead(head, n), findPrepare(prepare, n)
	switch {
	case p.kind == prepared && h.kind == prepared && h.same(p):
		return p.state(api.Have, false)
	// A prepare is written ahead of its header: a header that is behind it is what a crash between the two leaves.
	case p.kind == prepared && (h.kind != prepared || h.older(p)):
		return p.state(api.Have, true)
	case h.kind == prepared:
		return h.state(api.Faulty, false)
	case h.kind == broken:
		return api.SlotState{State: api.Faulty}
	case noughts(prepare):
		return api.SlotState{State: api.Empty}
	default:
		return api.SlotState{State: api.Torn}
	}
}
