package slot_test

import (
	"bytes"
	"fmt"
	"math"
	"testing"

	"exchequer/api"
	"exchequer/slot"
)

// wantState wants Judge to tell how a slot is.
func wantState(t *testing.T, what string, head, prepare []byte, n int, want api.SlotState) {
	t.Helper()
	if got := slot.Judge(head, prepare, n); got != want {
		t.Errorf("Judge, %s, %d: %+v, want %+v", what, n, got, want)
	}
}

// have, mend and faulty are states with an op and a view.
func have(op, view int) api.SlotState { return api.SlotState{State: 1, Op: op, View: view} }

func mend(op, view int) api.SlotState {
	return api.SlotState{State: 1, Op: op, View: view, Mend: true}
}

func faulty(op, view int) api.SlotState { return api.SlotState{State: 3, Op: op, View: view} }

// The states without an op.
var (
	torn  = api.SlotState{State: 2}
	empty = api.SlotState{State: 4}
)

// zeros are noughts; sevens are not.
func zeros(count int) []byte { return make([]byte, count) }

func sevens(count int) []byte { return bytes.Repeat([]byte{7}, count) }

// P7.2: each row of the table, one by one, by what the chapter says.
func TestRows(t *testing.T) {
	for _, count := range counts() {
		p := image(prepare(33, 5, count))
		like := full(33, count)
		like.H.View = 5
		for i, x := range []struct {
			head, prepare []byte
			want          api.SlotState
		}{
			{p[:256], p, have(33, 5)},
			{zeros(256), p, mend(33, 5)},
			{sevens(256), p, mend(33, 5)},
			{none(1), p, mend(33, 5)},
			{none(2), p, mend(33, 5)},
			{image(prepare(17, 5, count))[:256], p, mend(33, 5)},
			{image(prepare(17, 9, 3))[:256], p, mend(33, 5)},
			{image(prepare(1, 0, count))[:256], p, mend(33, 5)},
			{image(prepare(33, 4, count))[:256], p, mend(33, 5)},
			{image(prepare(33, 0, count))[:256], p, mend(33, 5)},
			{image(prepare(34, 5, count))[:256], p, mend(33, 5)},
			{image(prepare(33, 6, count))[:256], p, faulty(33, 6)},
			{image(prepare(49, 5, count))[:256], p, faulty(49, 5)},
			{image(prepare(49, 0, count))[:256], p, faulty(49, 0)},
			{laid(like)[:256], p, faulty(33, 5)},
			{image(prepare(33, 5, (count+1)%1024))[:256], p, faulty(33, 5)},
			{p[:256], zeros(1280), faulty(33, 5)},
			{p[:256], sevens(1280), faulty(33, 5)},
			{p[:256], p[:255], faulty(33, 5)},
			{p[:256], nil, faulty(33, 5)},
			{none(1), zeros(1280), empty},
			{none(1), nil, empty},
			{none(1), sevens(1280), torn},
			{none(1), p[:255], torn},
			{none(2), zeros(1280), faulty(0, 0)},
			{none(2), sevens(1280), faulty(0, 0)},
			{zeros(256), zeros(1280), faulty(0, 0)},
			{sevens(256), sevens(1280), faulty(0, 0)},
			{image(prepare(34, 5, count))[:256], zeros(1280), faulty(0, 0)},
			{nil, nil, faulty(0, 0)},
		} {
			wantState(t, fmt.Sprintf("a body of %d bytes, row %d", count, i), x.head, x.prepare, 1, x.want)
		}
	}
}

// piece is what may stand as a header or as a prepare: the bytes, and what they are: of which op and view, if they are those of a prepare (op 0: they are not); of which slot they say that it is unwritten (-1: of none).
type piece struct {
	name     string
	b        []byte
	op, view int
	none     int
}

// isOf tells whether a piece is one of a prepare of a slot.
func (p piece) isOf(n int) bool { return p.op > 0 && p.op%16 == n }

// messages are prepares of the slots 0, 1 and 15, many of one op, with views about 5, and two that differ in nothing that a state tells.
func messages() []api.Message {
	var l []api.Message
	for _, op := range []int{1, 15, 16, 17, 31, 32, 33, most - 15, most - 1, most} {
		for _, view := range []int{0, 4, 5, 6, most} {
			l = append(l, prepare(op, view, op%5))
		}
	}
	return append(l, prepare(17, 5, 1024), prepare(17, 5, 0), full(17, 256), full(16, 1), full(31, 1023))
}

// blanks are pieces that are neither of a prepare nor say that a slot is unwritten, though some of them are sealed.
func blanks() []piece {
	wrong := full(17, 9)
	wrong.H.Command = 3
	turned := image(full(17, 9))
	turned[300], turned[60] = 1, turned[60]^1
	return []piece{
		{"zeros", zeros(256), 0, 0, -1},
		{"sevens", sevens(256), 0, 0, -1},
		{"turned", turned[:256], 0, 0, -1},
		{"another Command", laid(wrong)[:256], 0, 0, -1},
		{"op 0", laid(prepare(0, 5, 0)), 0, 0, -1},
		{"an op beyond the greatest", laid(prepare(most+1, 5, 0)), 0, 0, -1},
		{"a view beyond the greatest", laid(prepare(17, most+1, 0)), 0, 0, -1},
		{"unwritten 16", none(16), 0, 0, -1},
		{"unwritten, with a Stamp", laid(api.Message{H: api.Header{Command: 1, Address: 1, Stamp: 1}}), 0, 0, -1},
		{"unwritten, with a body", laid(api.Message{H: api.Header{Command: 1, Address: 1}, Body: []byte{7}})[:256], 0, 0, -1},
		{"unwritten, with a Time", laid(api.Message{H: api.Header{Command: 1, Address: 1, Time: 1 << 63}}), 0, 0, -1},
	}
}

// heads are pieces that stand as a header.
func heads() []piece {
	l := blanks()
	for n := range 16 {
		l = append(l, piece{fmt.Sprint("unwritten ", n), none(n), 0, 0, n})
	}
	for _, m := range messages() {
		l = append(l, piece{fmt.Sprintf("the header of %d %d", m.H.Op, m.H.View), laid(m)[:256], m.H.Op, m.H.View, -1})
	}
	for _, short := range []int{0, 1, 255} {
		l = append(l, piece{"fewer bytes", laid(prepare(17, 5, 2))[:short], 0, 0, -1}, piece{"fewer bytes of an unwritten one", none(1)[:short], 0, 0, -1})
	}
	return append(l,
		piece{"a byte more", laid(prepare(17, 5, 2))[:257], 0, 0, -1},
		piece{"1,280 bytes", image(prepare(17, 5, 2)), 0, 0, -1},
		piece{"an unwritten one, and a nought", append(none(1), 0), 0, 0, -1},
	)
}

// bodies are pieces that stand as a prepare.
func bodies() []piece {
	l := blanks()
	for _, m := range messages() {
		name := fmt.Sprintf("the prepare of %d %d", m.H.Op, m.H.View)
		b := laid(m)
		l = append(l,
			piece{name, image(m), m.H.Op, m.H.View, -1},
			piece{name + " alone", b, m.H.Op, m.H.View, -1},
			piece{name + ", less its last byte", b[:len(b)-1], 0, 0, -1},
			piece{name + ", and more", append(bytes.Clone(b), sevens(1500)...), m.H.Op, m.H.View, -1},
		)
	}
	for _, count := range []int{0, 1, 255, 257, 1279, 1280, 1281, 3000} {
		last := zeros(count + 1)
		last[count] = 1
		l = append(l, piece{"zeros", zeros(count), 0, 0, -1}, piece{"zeros, and a 1", last, 0, 0, -1})
	}
	first := zeros(1280)
	first[0] = 0x80
	return append(l, piece{"a byte, and zeros", first, 0, 0, -1}, piece{"unwritten 1", none(1), 0, 0, -1})
}

// judged is how a slot is, by the chapter's table, of what is known of its pieces.
func judged(h, p piece, n int) api.SlotState {
	if n < 0 || n > 15 {
		return api.SlotState{}
	}
	if p.isOf(n) {
		if bytes.Equal(h.b, p.b[:256]) {
			return have(p.op, p.view)
		}
		if !h.isOf(n) || h.op < p.op || h.op == p.op && h.view < p.view {
			return mend(p.op, p.view)
		}
		return faulty(h.op, h.view)
	}
	if h.isOf(n) {
		return faulty(h.op, h.view)
	}
	if h.none != n {
		return faulty(0, 0)
	}
	for _, c := range p.b {
		if c != 0 {
			return torn
		}
	}
	return empty
}

// P7.2: all pairs of what may stand as a header and as a prepare, in the slots of some of them, in others, and in none.
func TestAllPairs(t *testing.T) {
	all := bodies()
	seen := map[api.SlotState]int{}
	for _, h := range heads() {
		for _, p := range all {
			for _, n := range []int{-1, 0, 1, 2, 15, 16, 17} {
				want := judged(h, p, n)
				wantState(t, h.name+"; "+p.name, h.b, p.b, n, want)
				seen[api.SlotState{State: want.State, Mend: want.Mend}]++
			}
		}
	}
	if len(seen) != 6 {
		t.Errorf("not all states came: %v", seen)
	}
}

// P7.2: of a number that is no slot's a zero state, whatever the bytes.
func TestNoSlot(t *testing.T) {
	for _, n := range others() {
		for _, op := range []int{1, 15, 16, 17} {
			p := image(prepare(op, 2, 3))
			wantState(t, "a whole one", p[:256], p, n, api.SlotState{})
			wantState(t, "unwritten", none(n), zeros(1280), n, api.SlotState{})
			wantState(t, "nothing", nil, nil, n, api.SlotState{})
		}
	}
	if slot.Judge(none(0), zeros(1280), math.MinInt) != (api.SlotState{}) {
		t.Error("the least number is a slot's")
	}
}

// P7.2: each slot, empty and with prepares of its own; what says that another slot is unwritten is not whole.
func TestEachSlot(t *testing.T) {
	for n := range 16 {
		for other := range 16 {
			p := image(prepare(other+16, 3, 40))
			wantOwn, wantNone, wantTorn := have(other+16, 3), empty, torn
			if other != n {
				wantOwn, wantNone, wantTorn = faulty(0, 0), faulty(0, 0), faulty(0, 0)
			}
			wantState(t, "a whole one", p[:256], p, n, wantOwn)
			wantState(t, "unwritten, zeros", none(other), zeros(1280), n, wantNone)
			wantState(t, "unwritten, sevens", none(other), sevens(1280), n, wantTorn)
		}
	}
}

// P7.2: an unwritten slot is Empty if all bytes of its prepare are noughts, however many there are; one that is none makes it Torn, wherever it stands.
func TestOneByteOfNoughts(t *testing.T) {
	for _, count := range []int{1, 255, 256, 257, 1279, 1280, 1281, 2000} {
		b := zeros(count)
		wantState(t, "zeros", none(6), b, 6, empty)
		for at := range b {
			b[at] = byte(at%255) + 1
			wantState(t, fmt.Sprintf("%d bytes, one at %d", count, at), none(6), b, 6, torn)
			b[at] = 0
		}
	}
}

// P7.2: a header that is one in all but the seal of its body is none that says that the slot is unwritten; of a prepare the header alone counts.
func TestHeadsOfOtherBodies(t *testing.T) {
	for at := 16; at < 32; at++ {
		b := none(1)
		b[at] ^= 1
		wantState(t, "unwritten, another seal of its body", reseal(b), zeros(1280), 1, faulty(0, 0))
		p := image(prepare(17, 2, 0))
		h := bytes.Clone(p[:256])
		h[at] ^= 1
		wantState(t, "a prepare's, another seal of its body", reseal(h), zeros(1280), 1, faulty(17, 2))
		wantState(t, "the same, behind the prepare", h, p, 1, faulty(17, 2))
		wantState(t, "the same as the prepare's own", h, append(bytes.Clone(h), zeros(1024)...), 1, faulty(17, 2))
	}
}

// Rule 4: what Judge is handed stays as it was, and its spare room is not looked at.
func TestJudgeMemory(t *testing.T) {
	p := image(full(17, 200))
	for _, x := range []struct {
		head, prepare int
		want          api.SlotState
	}{
		{256, 1280, have(17, 0x31323334)},
		{256, 456, have(17, 0x31323334)},
		{256, 455, faulty(17, 0x31323334)},
		{256, 0, faulty(17, 0x31323334)},
		{255, 456, mend(17, 0x31323334)},
		{257, 456, mend(17, 0x31323334)},
		{255, 455, faulty(0, 0)},
	} {
		h, b := bytes.Clone(p), bytes.Clone(p)
		wantState(t, "with spare room", h[:x.head], b[:x.prepare], 1, x.want)
		wantState(t, "of one memory", h[:x.head], h[:x.prepare], 1, x.want)
		if !bytes.Equal(h, p) || !bytes.Equal(b, p) {
			t.Error("what was handed in has changed")
		}
	}
	room := append(zeros(700), sevens(10)...)
	head := append(none(1), 5)
	wantState(t, "zeros, with spare room", head[:256], room[:700], 1, empty)
	if !bytes.Equal(room, append(zeros(700), sevens(10)...)) || !bytes.Equal(head, append(none(1), 5)) {
		t.Error("what was handed in has changed")
	}
}

// The chapter's examples.
func TestExamples(t *testing.T) {
	p, e := slot.Bytes(api.Message{H: api.Header{Command: api.Prepare, Op: 17, View: 2}})
	q, f := slot.Bytes(api.Message{H: api.Header{Command: api.Prepare, Op: 1}})
	unwritten, g := slot.Unwritten(1)
	if e != api.OK || f != api.OK || g != api.OK || len(p) != 1280 || slot.Of(17) != 1 {
		t.Fatalf("%v, %v, %v, %d bytes", e, f, g, len(p))
	}
	wantState(t, "p, p", p[:256], p, 1, api.SlotState{State: api.Have, Op: 17, View: 2})
	wantState(t, "q, p", q[:256], p, 1, api.SlotState{State: api.Have, Op: 17, View: 2, Mend: true})
	wantState(t, "unwritten, p", unwritten, p, 1, api.SlotState{State: api.Have, Op: 17, View: 2, Mend: true})
	wantState(t, "p, q", p[:256], q, 1, api.SlotState{State: api.Faulty, Op: 17, View: 2})
	wantState(t, "p, noughts", p[:256], zeros(1280), 1, api.SlotState{State: api.Faulty, Op: 17, View: 2})
	wantState(t, "unwritten, noughts", unwritten, zeros(1280), 1, api.SlotState{State: api.Empty})
	wantState(t, "unwritten, sevens", unwritten, sevens(1280), 1, api.SlotState{State: api.Torn})
	wantState(t, "noughts, noughts", zeros(256), zeros(1280), 1, api.SlotState{State: api.Faulty})
	wantState(t, "p, p, another slot", p[:256], p, 2, api.SlotState{State: api.Faulty})
	refuseBytes(t, "op 0", api.Message{H: api.Header{Command: api.Prepare}}, api.ErrArg)
}
