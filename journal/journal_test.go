package journal_test

import (
	"bytes"
	"crypto/sha256"
	"encoding/binary"
	"slices"
	"testing"

	"exchequer/api"
	"exchequer/disk"
	"exchequer/journal"
)

// most is the greatest that an op or a view may be.
const most = 1 << 30

// sectors is how many a disk must have for its rings.
const sectors = 104

// headAt and prepareAt are where a slot's header and its prepare stand.
func headAt(n int) int    { return 8 + n }
func prepareAt(n int) int { return 24 + 5*n }

// Slots that tell no op.
var (
	empty   = api.SlotState{State: 4}
	torn    = api.SlotState{State: 2}
	unknown = api.SlotState{State: 3}
)

func have(op, view int) api.SlotState   { return api.SlotState{State: 1, Op: op, View: view} }
func mend(op, view int) api.SlotState   { return api.SlotState{State: 1, Op: op, View: view, Mend: true} }
func faulty(op, view int) api.SlotState { return api.SlotState{State: 3, Op: op, View: view} }

// put lays a seal, the library's own, of what it is handed.
func put(room, of []byte) {
	whole := sha256.Sum256(of)
	copy(room[:16], whole[:16])
}

// laid is a message's bytes, laid by the words of chapter 4.
func laid(m api.Message) []byte {
	h := m.H
	b := make([]byte, 256, 256+len(m.Body))
	put(b[16:], m.Body)
	at := 32
	for _, x := range []int{h.Command, h.Replica, len(m.Body), h.View, h.LogView, h.Op, h.Parent, h.Commit, h.Mark} {
		binary.LittleEndian.PutUint32(b[at:], uint32(x))
		at += 4
	}
	binary.LittleEndian.PutUint64(b[68:], h.Client.Lo)
	binary.LittleEndian.PutUint64(b[76:], h.Client.Hi)
	binary.LittleEndian.PutUint32(b[84:], uint32(h.Request))
	binary.LittleEndian.PutUint32(b[88:], uint32(h.Operation))
	binary.LittleEndian.PutUint64(b[92:], h.Time)
	binary.LittleEndian.PutUint32(b[100:], uint32(h.Address))
	binary.LittleEndian.PutUint32(b[104:], uint32(h.Stamp))
	put(b, b[16:256])
	return append(b, m.Body...)
}

// image is a slot's bytes of a prepare, by the words of chapter 7.
func image(m api.Message) []byte { return append(laid(m), zeros(1024-len(m.Body))...) }

// head is the bytes of a prepare's header.
func head(m api.Message) []byte { return laid(m)[:256] }

// none is what says that a slot is unwritten, by the words of chapter 7.
func none(n int) []byte { return laid(api.Message{H: api.Header{Command: 1, Address: n}}) }

func zeros(count int) []byte { return make([]byte, count) }

// some is bytes of which no two that stand near are the same.
func some(count int) []byte {
	b := make([]byte, count)
	for i := range b {
		b[i] = byte(i*i*5 + i*29 + count + 1)
	}
	return b
}

// prepare is one that says no more than it must, with a body of so many bytes.
func prepare(op, view, count int) api.Message {
	return api.Message{H: api.Header{Command: 2, Op: op, View: view, Size: count}, Body: some(count)}
}

// full is a prepare of which each field is set, no two alike, and no two bytes of one.
func full(op, count int) api.Message {
	return api.Message{Body: some(count), H: api.Header{
		Command: 2, Replica: 5, Size: count,
		View: 0x31323334, LogView: 0x21222324,
		Op: op, Parent: 0x01020304, Commit: 0x35363738, Mark: 0x25262728,
		Client:  api.U128{Hi: 0xf0e1d2c3b4a59687, Lo: 0x78695a4b3c2d1e0f},
		Request: 0x15161718, Operation: 0x05060708,
		Time:    0x8899aabbccddeeff,
		Address: 0x393a3b3c, Stamp: 0x292a2b2c,
	}}
}

// same tells whether two messages are the same; bodies that are nil or empty are.
func same(a, b api.Message) bool { return a.H == b.H && bytes.Equal(a.Body, b.Body) }

// piece is what may stand in a slot: the bytes of its header and of its prepare, how the slot is by the table of chapter 7, and the prepare, if it has one.
type piece struct {
	name          string
	head, prepare []byte
	s             api.SlotState
	m             api.Message
}

// pieces are what may stand in the slot n: something of each line of that table.
func pieces(n int) []piece {
	least, later := n, n+32
	if n == 0 {
		least = 16
	}
	old, short, long, top := prepare(least, 0, 3), prepare(later, 2, 0), full(later, 1024), prepare(most-16+n, most, 700)
	view := short.H.View
	broken := image(long)
	broken[400] ^= 1
	return []piece{
		{"empty", none(n), zeros(1280), empty, api.Message{}},
		{"torn", none(n), broken, torn, api.Message{}},
		{"neither whole", zeros(256), zeros(1280), unknown, api.Message{}},
		{"another slot's", none((n + 1) % 16), image(prepare(later+1, 2, 9)), unknown, api.Message{}},
		{"an old one", head(old), image(old), have(least, 0), old},
		{"one without a body", head(short), image(short), have(later, view), short},
		{"one with the longest body", head(long), image(long), have(later, long.H.View), long},
		{"one of great numbers", head(top), image(top), have(top.H.Op, most), top},
		{"one whose header is unwritten", none(n), image(long), mend(later, long.H.View), long},
		{"one whose header is an older op's", head(old), image(short), mend(later, view), short},
		{"one whose header is an older view's", head(prepare(later, 1, 80)), image(short), mend(later, view), short},
		{"one whose header is not whole", some(256), image(top), mend(top.H.Op, most), top},
		{"a header without its prepare", head(short), zeros(1280), faulty(later, view), api.Message{}},
		{"a header whose prepare is not whole", head(long), broken, faulty(later, long.H.View), api.Message{}},
		{"a header beside an older prepare", head(short), image(old), faulty(later, view), api.Message{}},
		{"a header beside another one of its op and view", head(short), image(prepare(later, view, 8)), faulty(later, view), api.Message{}},
	}
}

// rings are 16 lists of what may stand in all slots; in each list a slot has something else, so that each slot has all of it once.
func rings() [][]piece {
	var l [][]piece
	for turn := range len(pieces(0)) {
		var ring []piece
		for n := range 16 {
			all := pieces(n)
			ring = append(ring, all[(turn+n)%len(all)])
		}
		l = append(l, ring)
	}
	return l
}

// stateOf are how the slots of a ring are.
func stateOf(ring []piece) []api.SlotState {
	var l []api.SlotState
	for _, p := range ring {
		l = append(l, p.s)
	}
	return l
}

// want holds an error against that which must come.
func want(t testing.TB, what string, got, want api.Errno) {
	t.Helper()
	if got != want {
		t.Errorf("%s: %v, want %v", what, got, want)
	}
}

// ok does not go on behind an error.
func ok(t testing.TB, what string, got api.Errno) {
	t.Helper()
	if got != api.OK {
		t.Fatalf("%s: %v", what, got)
	}
}

// made is a new disk.
func made(t testing.TB, sectors int) *disk.Disk {
	t.Helper()
	d, e := disk.New(sectors)
	ok(t, "New", e)
	return d
}

// formatted is a disk whose ring is empty.
func formatted(t testing.TB) *disk.Disk {
	t.Helper()
	d := made(t, sectors)
	ok(t, "Format", journal.Format(d))
	return d
}

// having is a disk whose slots have a ring's bytes, and are safe.
func having(t testing.TB, ring []piece) *disk.Disk {
	t.Helper()
	d := made(t, sectors)
	for n, p := range ring {
		lay(t, d, n, p)
	}
	ok(t, "Flush", d.Flush())
	return d
}

// lay writes a piece into a slot of a disk.
func lay(t testing.TB, d *disk.Disk, n int, p piece) {
	t.Helper()
	ok(t, "Write", d.Write(headAt(n), p.head))
	ok(t, "Write", d.Write(prepareAt(n), p.prepare))
}

// opened is the journal of a disk.
func opened(t testing.TB, d *disk.Disk) *journal.Journal {
	t.Helper()
	j, e := journal.Open(d)
	ok(t, "Open", e)
	return j
}

// fuse gives a disk a fuse.
func fuse(t testing.TB, d *disk.Disk, n int) {
	t.Helper()
	ok(t, "Fuse", disk.Fuse([]*disk.Disk{d}, n))
}

// blow lets a disk go out.
func blow(t testing.TB, d *disk.Disk) {
	t.Helper()
	fuse(t, d, 0)
	want(t, "Flush at a fuse of none", d.Flush(), api.ErrBroken)
}

// yes is a list of as many that are true.
func yes(count int) []bool { return slices.Repeat([]bool{true}, count) }

// spoil turns all bytes of a slice, and those of its spare room.
func spoil(b []byte) {
	b = b[:cap(b)]
	for i := range b {
		b[i] ^= 0xa5
	}
}

// wantSlots wants a journal to know its slots to be so.
func wantSlots(t testing.TB, what string, j *journal.Journal, want []api.SlotState) {
	t.Helper()
	if got := j.Slots(); !slices.Equal(got, want) {
		t.Errorf("%s: Slots: %v, want %v", what, got, want)
	}
}

// wantGet wants Get to tell a prepare.
func wantGet(t testing.TB, what string, j *journal.Journal, want api.Message) {
	t.Helper()
	if m, e := j.Get(want.H.Op); e != api.OK || !same(m, want) {
		t.Errorf("%s: Get(%d): %+v, %v, want %+v", what, want.H.Op, m.H, e, want.H)
	}
}

// refuseGet wants Get to tell an error, and nothing beside it.
func refuseGet(t testing.TB, what string, j *journal.Journal, op int, want api.Errno) {
	t.Helper()
	if m, e := j.Get(op); e != want || !same(m, api.Message{}) {
		t.Errorf("%s: Get(%d): %+v, %v, want %v", what, op, m.H, e, want)
	}
}

// wantShut wants Open to tell an error, and nothing beside it.
func wantShut(t testing.TB, what string, d *disk.Disk, want api.Errno) {
	t.Helper()
	if j, e := journal.Open(d); e != want || j != nil {
		t.Errorf("%s: Open: %v, %v, want %v", what, j, e, want)
	}
}
