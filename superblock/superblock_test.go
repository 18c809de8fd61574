package superblock_test

import (
	"bytes"
	"crypto/sha256"
	"encoding/binary"
	"slices"
	"testing"

	"exchequer/api"
	"exchequer/superblock"
)

// most is the greatest that an op, a view or a Sequence may be.
const most = 1 << 30

// number is one of the numbers with which a superblock begins: its name, where it stands, what it may be, and the field itself.
type number struct {
	name            string
	at, least, most int
	of              func(*api.Super) *int
}

// numbers are those numbers, but N, as the chapter lists them; Me is that of one of seven.
func numbers() []number {
	return []number{
		{"Sequence", 16, 1, most, func(s *api.Super) *int { return &s.Sequence }},
		{"Me", 20, 0, 6, func(s *api.Super) *int { return &s.Me }},
		{"View", 28, 0, most, func(s *api.Super) *int { return &s.View }},
		{"LogView", 32, 0, most, func(s *api.Super) *int { return &s.LogView }},
		{"Commit", 36, 0, most, func(s *api.Super) *int { return &s.Commit }},
		{"Mark", 40, 0, most, func(s *api.Super) *int { return &s.Mark }},
		{"Root.Address", 44, 0, 512, func(s *api.Super) *int { return &s.Root.Address }},
		{"Root.Stamp", 48, 0, most, func(s *api.Super) *int { return &s.Root.Stamp }},
	}
}

// Where N, Fetching, the count of Heads and the first of them stand.
const (
	nAt        = 24
	fetchingAt = 52
	countAt    = 56
	headsAt    = 60
)

// heads are so many, in which no byte stands twice near itself.
func heads(count, seed int) []api.Head {
	var l []api.Head
	for i := range count {
		l = append(l, api.Head{Op: (i*0x01f3a5b7 + seed*0x00c5d301 + 0x1234) % most, View: (i*0x02e7c1d9 + seed*0x017b3905 + 0x4321) % most})
	}
	return l
}

// least is a superblock that may be and says no more than it must.
func least() api.Super { return api.Super{Sequence: 1, N: 3} }

// full is a superblock of seven in which each number is set, no two alike, and no two bytes of one.
func full(count int) api.Super {
	return api.Super{
		Sequence: 0x31323334, Me: 5, N: 7,
		View: 0x21222324, LogView: 0x11121314, Commit: 0x01020304, Mark: 0x35363738,
		Root: api.Ref{Address: 0x0102, Stamp: 0x25262728}, Fetching: true, Heads: heads(count, 1),
	}
}

// greatest is a superblock in which all is the greatest that it may be.
func greatest() api.Super {
	s := api.Super{N: 7, Fetching: true}
	for _, x := range numbers() {
		*x.of(&s) = x.most
	}
	s.Heads = slices.Repeat([]api.Head{{Op: most, View: most}}, 32)
	return s
}

// supers are superblocks that may be: with none, one, some and 32 Heads, Fetching or not.
func supers() []api.Super {
	l := []api.Super{least(), greatest(), {Sequence: most, N: 5, Me: 4}, {Sequence: 1, N: 3, Me: 1, View: 4}}
	for _, count := range []int{0, 1, 2, 24, 25, 31, 32} {
		for _, fetching := range []bool{false, true} {
			s := full(count)
			s.Fetching = fetching
			l = append(l, s)
		}
	}
	return l
}

// reseal lays the seal anew, the library's own, so that what was changed behind it is sealed.
func reseal(b []byte) []byte {
	whole := sha256.Sum256(b[16:])
	copy(b[:16], whole[:16])
	return b
}

// laid is a superblock's bytes, laid by the chapter's words.
func laid(s api.Super) []byte {
	l := []int{s.Sequence, s.Me, s.N, s.View, s.LogView, s.Commit, s.Mark, s.Root.Address, s.Root.Stamp, 0, len(s.Heads)}
	if s.Fetching {
		l[9] = 1
	}
	for _, h := range s.Heads {
		l = append(l, h.Op, h.View)
	}
	b := make([]byte, 16)
	for _, x := range l {
		b = binary.LittleEndian.AppendUint32(b, uint32(x))
	}
	return reseal(append(b, make([]byte, 512-len(b))...))
}

// same tells whether two superblocks are the same; lists that are nil or empty are.
func same(a, b api.Super) bool {
	return slices.Equal(a.Heads, b.Heads) &&
		a.Sequence == b.Sequence && a.Me == b.Me && a.N == b.N &&
		a.View == b.View && a.LogView == b.LogView && a.Commit == b.Commit &&
		a.Mark == b.Mark && a.Root == b.Root && a.Fetching == b.Fetching
}

// want holds an error against that which must come.
func want(t testing.TB, what string, got, want api.Errno) {
	t.Helper()
	if got != want {
		t.Errorf("%s: %v, want %v", what, got, want)
	}
}

// ok does not go on behind an error.
func ok(t testing.TB, what string, got api.Errno) {
	t.Helper()
	if got != api.OK {
		t.Fatalf("%s: %v", what, got)
	}
}

// wantMay wants a superblock to be one that may be, or not, in all calls that ask.
func wantMay(t *testing.T, what string, s api.Super, may bool) {
	t.Helper()
	b, e := superblock.Bytes(s)
	if !may {
		want(t, "Check, "+what, superblock.Check(s), api.ErrArg)
		if e != api.ErrArg || len(b) != 0 {
			t.Errorf("Bytes, %s: %d bytes, %v", what, len(b), e)
		}
		return
	}
	want(t, "Check, "+what, superblock.Check(s), api.OK)
	if e != api.OK || !bytes.Equal(b, laid(s)) {
		t.Errorf("Bytes, %s: %x, %v, want %x", what, b, e, laid(s))
	}
}

// refuse wants Read to answer an error, with zero values beside it.
func refuse(t *testing.T, what string, b []byte, want api.Errno) {
	t.Helper()
	if s, e := superblock.Read(b); e != want || !same(s, api.Super{}) {
		t.Errorf("Read, %s: %+v, %v, want %v", what, s, e, want)
	}
}

// P6.1: superblocks that may be, as the chapter's words lay them, and read again.
func TestBytesAndRead(t *testing.T) {
	for _, s := range supers() {
		wantMay(t, "an ordinary one", s, true)
		if got, e := superblock.Read(laid(s)); e != api.OK || !same(got, s) {
			t.Errorf("Read: %+v, %v, want %+v", got, e, s)
		}
	}
}

// P6.1: each number at its edges, and far beyond them.
func TestNumbersAtEdges(t *testing.T) {
	for _, x := range numbers() {
		for _, v := range []int{x.least, x.least + 1, x.most - 1, x.most} {
			s := full(1)
			*x.of(&s) = v
			wantMay(t, x.name, s, true)
		}
		for _, v := range []int{x.least - 1, -1, x.most + 1, x.most + 2, -1 << 31, -most, 1<<31 - 1, 1 << 31, 1 << 32, 1<<32 + x.least, 1<<32 + x.most, -1 << 63, 1<<63 - 1} {
			s := full(1)
			*x.of(&s) = v
			wantMay(t, x.name, s, false)
		}
	}
}

// P6.1: N, and Me beside it.
func TestReplicas(t *testing.T) {
	for n := -9; n <= 20; n++ {
		for me := -2; me <= 21; me++ {
			s := least()
			s.N, s.Me = n, me
			wantMay(t, "N and Me", s, (n == 3 || n == 5 || n == 7) && me >= 0 && me <= n-1)
		}
	}
	for _, n := range []int{-1 << 63, -1 << 32, 1<<32 + 3, 1<<63 - 1} {
		s := least()
		s.N = n
		wantMay(t, "N far beyond", s, false)
	}
}

// P6.1: how many Heads there are, and the numbers of each of them.
func TestHeads(t *testing.T) {
	for count := range 40 {
		s := least()
		s.Heads = heads(count, 3)
		wantMay(t, "so many Heads", s, count <= 32)
	}
	s := least()
	s.Heads = make([]api.Head, 1<<20)
	wantMay(t, "2^20 Heads", s, false)
	for _, count := range []int{1, 2, 32} {
		for i := range count {
			for _, v := range []int{-1, 0, most, most + 1, -1 << 63, 1 << 32, 1<<63 - 1} {
				s := least()
				s.Heads = heads(count, 3)
				s.Heads[i].Op = v
				wantMay(t, "a Head's Op", s, v == 0 || v == most)
				s.Heads = heads(count, 3)
				s.Heads[i].View = v
				wantMay(t, "a Head's View", s, v == 0 || v == most)
			}
		}
	}
}

// P6.1: Read takes 512 bytes alone; that comes ahead of the seal.
func TestReadOfOtherCounts(t *testing.T) {
	refuse(t, "nil", nil, api.ErrBytes)
	b := append(laid(full(32)), make([]byte, 600)...)
	for _, count := range []int{0, 1, 15, 16, 17, 60, 256, 496, 510, 511, 513, 514, 528, 768, 1024, 1112} {
		refuse(t, "another count", b[:count], api.ErrBytes)
		refuse(t, "another count of noughts", make([]byte, count), api.ErrBytes)
		if count >= 16 {
			refuse(t, "another count, sealed", reseal(bytes.Clone(b[:count])), api.ErrBytes)
		}
	}
	if s, e := superblock.Read(b[:512]); e != api.OK || !same(s, full(32)) {
		t.Errorf("512 of more: %+v, %v", s, e)
	}
	refuse(t, "512 noughts", make([]byte, 512), api.ErrSeal)
}

// refuseAt wants bytes to be refused when a number of theirs is another one: by the old seal, and when they are sealed anew.
func refuseAt(t *testing.T, what string, s api.Super, at int, v uint32) {
	t.Helper()
	b := laid(s)
	binary.LittleEndian.PutUint32(b[at:], v)
	refuse(t, what+", the old seal", b, api.ErrSeal)
	refuse(t, what, reseal(b), api.ErrBytes)
}

// P6.1: bytes whose seal is right, but whose numbers may not be.
func TestSealedThatMayNotBe(t *testing.T) {
	for _, x := range numbers() {
		wrong := []uint32{uint32(x.most) + 1, uint32(x.most) | 1<<31, 1 << 31, 1<<31 - 1, 1<<32 - 1}
		if x.least > 0 {
			wrong = append(wrong, 0)
		}
		for _, v := range wrong {
			refuseAt(t, x.name, full(2), x.at, v)
		}
	}
	for _, n := range []uint32{0, 1, 2, 4, 6, 8, 9, 1<<32 - 1} {
		refuseAt(t, "N", least(), nAt, n)
	}
	for _, n := range []uint32{3, 5} {
		refuseAt(t, "N no more than Me", full(0), nAt, n)
	}
	for i := range 32 {
		for _, v := range []uint32{most + 1, 1 << 31, 1<<32 - 1} {
			refuseAt(t, "a Head's Op", full(32), headsAt+8*i, v)
			refuseAt(t, "a Head's View", full(32), headsAt+8*i+4, v)
		}
	}
}

// P6.1: bytes whose seal is right, but whose tenth number is neither 0 nor 1.
func TestSealedFetching(t *testing.T) {
	for _, v := range []uint32{2, 3, 255, 256, 257, 1 << 16, 1<<24 + 1, 1 << 31, 1<<31 + 1, 1<<32 - 1} {
		for _, count := range []int{0, 1, 32} {
			refuseAt(t, "Fetching", full(count), fetchingAt, v)
		}
	}
}

// P6.1: bytes whose seal is right, but whose count of Heads is above 32, or is below what stands there.
func TestSealedCount(t *testing.T) {
	for _, v := range []uint32{33, 34, 56, 57, 64, 256, 288, 1 << 16, 1 << 29, 1 << 31, 1<<31 + 1, 1<<32 - 32, 1<<32 - 1} {
		for _, count := range []int{0, 1, 32} {
			refuseAt(t, "above 32 Heads", full(count), countAt, v)
		}
	}
	for v := range uint32(32) {
		refuseAt(t, "fewer than there are", full(32), countAt, v)
	}
	// More than were laid: the others are noughts, as Heads may be.
	b := laid(full(1))
	b[countAt] = 3
	s := full(1)
	s.Heads = append(s.Heads, api.Head{}, api.Head{})
	if got, e := superblock.Read(reseal(b)); e != api.OK || !same(got, s) {
		t.Errorf("noughts as Heads: %+v, %v", got, e)
	}
}

// P6.1: bytes whose seal is right, but whose noughts are none.
func TestSealedNoughts(t *testing.T) {
	for _, count := range []int{0, 1, 32} {
		for at := headsAt + 8*count; at < 512; at++ {
			for _, v := range []byte{1, 0x80, 0xff} {
				b := laid(full(count))
				b[at] = v
				refuse(t, "no nought, the old seal", b, api.ErrSeal)
				refuse(t, "no nought", reseal(b), api.ErrBytes)
			}
		}
	}
}

// P6.1, P6.5: each bit of a superblock's bytes, turned: in the seal, in the numbers, in the noughts.
func TestTurnedBits(t *testing.T) {
	for _, s := range []api.Super{least(), full(1), greatest()} {
		b := laid(s)
		for at := range b {
			for bit := range 8 {
				b[at] ^= 1 << bit
				refuse(t, "a bit turned", b, api.ErrSeal)
				b[at] ^= 1 << bit
			}
		}
	}
}

// P6.6: what is written as bytes is read as it was, and what is read is written as the same bytes.
func TestThereAndBack(t *testing.T) {
	for _, s := range supers() {
		b, e := superblock.Bytes(s)
		ok(t, "Bytes", e)
		got, e := superblock.Read(b)
		if e != api.OK || !same(got, s) {
			t.Errorf("%+v, %v, want %+v", got, e, s)
		}
		if again, e := superblock.Bytes(got); e != api.OK || !bytes.Equal(again, b) {
			t.Errorf("written again: %x, %v, was %x", again, e, b)
		}
	}
}

// FuzzRead looks for bytes that are sealed and read, but are not those of what was read.
func FuzzRead(f *testing.F) {
	for _, s := range supers() {
		f.Add(laid(s)[16:])
	}
	f.Add([]byte{1, 0, 0, 0, 0, 0, 0, 0, 3})
	f.Fuzz(func(t *testing.T, behind []byte) {
		b := make([]byte, 512)
		copy(b[16:], behind)
		s, e := superblock.Read(reseal(b))
		if e == api.ErrBytes && same(s, api.Super{}) {
			return
		}
		if e != api.OK || superblock.Check(s) != api.OK || !bytes.Equal(laid(s), b) {
			t.Errorf("%x: %+v, %v", b, s, e)
		}
	})
}

// Rule 4: what is handed in stays as it was, its spare room too, which is not looked at; what is answered is new memory.
func TestBytesKeepsNothing(t *testing.T) {
	room := heads(9, 5)
	was := slices.Clone(room)
	s := full(0)
	s.Heads = room[:2]
	want(t, "Check", superblock.Check(s), api.OK)
	b, e := superblock.Bytes(s)
	ok(t, "Bytes", e)
	other, _ := superblock.Bytes(s)
	if !slices.Equal(room, was) || !bytes.Equal(b, laid(s)) {
		t.Errorf("%v, was %v", room, was)
	}
	fill(b)
	clear(room)
	s.Heads = was[:2]
	if !bytes.Equal(other, laid(s)) {
		t.Error("an answer of Bytes has changed with another one, or with what was handed in")
	}
	room = heads(33, 5)
	room[32].Op = -1
	s.Heads = room[:32]
	wantMay(t, "what stands in the spare room", s, true)
}

// fill turns all bytes of an answer, its spare room too.
func fill(b []byte) {
	for i := range b[:cap(b)] {
		b[:cap(b)][i] ^= 0x5a
	}
}

// spoil turns all Heads of an answer, its spare room too.
func spoil(l []api.Head) {
	for i := range l[:cap(l)] {
		l[:cap(l)][i] = api.Head{Op: -7, View: -8}
	}
}

func TestReadKeepsNothing(t *testing.T) {
	for _, count := range []int{0, 1, 5, 32} {
		room := append(laid(full(count)), 1, 2, 3)
		was := bytes.Clone(room)
		s, e := superblock.Read(room[:512])
		ok(t, "Read", e)
		other, _ := superblock.Read(room[:512])
		spoil(s.Heads)
		if !bytes.Equal(room, was) {
			t.Error("Read has changed what it was handed, or its answer is no new memory")
		}
		clear(room)
		if !same(other, full(count)) {
			t.Errorf("an answer of Read has changed with another one, or with what was handed in: %+v", other)
		}
	}
}
