package grid_test

import (
	"bytes"
	"math/rand"
	"slices"
	"testing"

	"exchequer/api"
	"exchequer/disk"
	"exchequer/grid"
)

// plain is a grid by the chapter's words, of a disk to which all is done that is done to the other one's.
type plain struct {
	d      *disk.Disk
	hows   []int
	wanted []api.Ref
}

func (p *plain) of(r api.Ref) bool {
	return r.Address >= 1 && r.Address <= len(p.hows) && r.Stamp >= 0 && r.Stamp <= most
}

func (p *plain) want(r api.Ref) {
	if !slices.Contains(p.wanted, r) {
		p.wanted = append(p.wanted, r)
	}
}

// there is what a ref names, and whether that is there.
func (p *plain) there(r api.Ref) (api.GridBlock, bool) {
	if !p.of(r) {
		return api.GridBlock{}, false
	}
	raw, e := p.d.Read(placeOf(r.Address), 4)
	if e != api.OK {
		return api.GridBlock{}, false
	}
	b, e := parsed(raw)
	return b, e == api.OK && b.Ref == r
}

// reach goes by a list of what is still to be looked at; the disk is up.
func (p *plain) reach(root api.Ref) []api.Ref {
	var told []api.Ref
	been := map[api.Ref]int{}
	for todo := []api.Ref{root}; len(todo) > 0; {
		r := todo[0]
		todo = todo[1:]
		been[r]++
		if been[r] > 1 {
			continue
		}
		if b, there := p.there(r); there {
			todo = slices.Concat(b.Refs, todo)
			continue
		}
		told = append(told, r)
		if p.of(r) {
			p.want(r)
		}
	}
	return told
}

func (p *plain) write(b api.GridBlock) (api.Ref, api.Errno) {
	b.Ref.Address = 1
	switch {
	case !p.d.Up():
		return api.Ref{}, api.ErrBroken
	case !mayBe(b):
		return api.Ref{}, api.ErrArg
	}
	at := slices.Index(p.hows, free)
	if at < 0 {
		return api.Ref{}, api.ErrFull
	}
	b.Ref.Address = at + 1
	if e := p.d.Write(placeOf(at+1), laid(b)); e != api.OK {
		return api.Ref{}, e
	}
	p.hows[at] = taken
	return b.Ref, api.OK
}

func (p *plain) read(r api.Ref) (api.GridBlock, api.Errno) {
	switch {
	case !p.d.Up():
		return api.GridBlock{}, api.ErrBroken
	case !p.of(r):
		return api.GridBlock{}, api.ErrArg
	}
	b, there := p.there(r)
	if !there {
		p.want(r)
		return api.GridBlock{}, api.ErrFaulty
	}
	return b, api.OK
}

func (p *plain) install(r api.Ref, raw []byte) api.Errno {
	b, e := parsed(raw)
	switch {
	case !p.d.Up():
		return api.ErrBroken
	case !p.of(r):
		return api.ErrArg
	case e != api.OK:
		return e
	case b.Ref != r:
		return api.ErrArg
	}
	if e := p.d.Write(placeOf(r.Address), raw); e != api.OK {
		return e
	}
	p.wanted = slices.DeleteFunc(p.wanted, func(x api.Ref) bool { return x == r })
	return api.OK
}

func (p *plain) release(address int) api.Errno {
	if address < 1 || address > len(p.hows) {
		return api.ErrRange
	}
	if p.hows[address-1] != taken {
		return api.ErrState
	}
	p.hows[address-1] = letGo
	return api.OK
}

func (p *plain) settle() int {
	n := 0
	for i, how := range p.hows {
		if how == letGo {
			p.hows[i] = free
			n++
		}
	}
	return n
}

// deeds takes numbers from bytes, noughts behind their end.
type deeds struct{ b []byte }

func (s *deeds) next(below int) int {
	if len(s.b) == 0 {
		return 0
	}
	x := int(s.b[0])
	s.b = s.b[1:]
	return x % below
}

// ref is one of few, as often as not one that is there; few are not of the grid.
func (s *deeds) ref(blocks int) api.Ref { return ref(s.next(blocks+2), s.next(5)-s.next(8)/7) }

// block is one that may be, but for a few, with refs to near ones.
func (s *deeds) block(blocks int) api.GridBlock {
	b := api.GridBlock{Kind: 1 + s.next(15), Ref: s.ref(blocks), Body: some(s.next(200) * 5)}
	for range s.next(18) * s.next(2) {
		b.Refs = append(b.Refs, ref(1+s.next(blocks+2), s.next(4)))
	}
	return b
}

// scene is a grid and the plain one beside it.
type scene struct {
	d *disk.Disk
	g *grid.Grid
	p *plain
}

// both wants a deed to be done to both disks with the same answer.
func (s *scene) both(t testing.TB, what string, deed func(*disk.Disk) api.Errno) {
	t.Helper()
	want(t, what, deed(s.d), deed(s.p.d))
}

func (s *scene) write(t testing.TB, b api.GridBlock) {
	t.Helper()
	hows, was := slices.Clone(s.p.hows), look(t, s.d)
	r, e := s.g.Write(b.Kind, b.Refs, b.Body, b.Ref.Stamp)
	if x, f := s.p.write(b); r != x || e != f {
		t.Fatalf("Write: %v, %v, want %v, %v", r, e, x, f)
	}
	// P11.5: a block that is taken, or let go, is not written by it.
	now := look(t, s.d).now
	for i, how := range hows {
		from, to := placeOf(i+1)*256, placeOf(i+2)*256
		if how != free && !bytes.Equal(now[from:to], was.now[from:to]) {
			t.Fatalf("Write has changed the block %d, which is %d", i+1, how)
		}
	}
}

func (s *scene) read(t testing.TB, r api.Ref, first bool) {
	t.Helper()
	var raw []byte
	var f api.Errno
	if first {
		raw, f = s.g.Raw(r)
	}
	b, e := s.g.Read(r)
	if !first {
		raw, f = s.g.Raw(r)
	}
	x, wanted := s.p.read(r)
	if e != wanted || f != wanted || !same(b, x) {
		t.Fatalf("Read(%v): %+v, %v, Raw: %v, want %+v, %v", r, b, e, f, x, wanted)
	}
	if wanted == api.OK && !bytes.Equal(raw, laid(x)) || wanted != api.OK && len(raw) != 0 {
		t.Fatalf("Raw(%v): %d bytes that are not the block's", r, len(raw))
	}
}

func (s *scene) reach(t testing.TB, r api.Ref) {
	t.Helper()
	l, e := s.g.Reach(r)
	var told []api.Ref
	f := api.OK
	switch {
	case !s.p.d.Up():
		f = api.ErrBroken
	case !s.p.of(r):
		f = api.ErrArg
	default:
		told = s.p.reach(r)
	}
	if e != f || !slices.Equal(l, told) {
		t.Fatalf("Reach(%v): %v, %v, want %v, %v", r, l, e, told, f)
	}
}

func (s *scene) install(t testing.TB, by *deeds) {
	t.Helper()
	b := by.block(len(s.p.hows))
	r, raw := b.Ref, laid(b)
	switch by.next(8) {
	case 0:
		r = by.ref(len(s.p.hows))
	case 1:
		raw = raw[:by.next(256)*4]
	case 2:
		raw[by.next(256)*4] ^= byte(by.next(256))
	case 3:
		raw[by.next(256)] = byte(by.next(256))
		reseal(raw)
	case 4, 5:
		// What is wanted is what is brought.
		if len(s.p.wanted) > 0 {
			r = s.p.wanted[by.next(len(s.p.wanted))]
			b.Ref = r
			raw = laid(b)
		}
	}
	want(t, "Install", s.g.Install(r, raw), s.p.install(r, raw))
}

// crash lets both disks crash, and opens the grids anew at a set, or goes on with them.
func (s *scene) crash(t testing.TB, by *deeds) {
	t.Helper()
	keeps := make([]bool, 16)
	for i := range keeps {
		keeps[i] = by.next(2) == 1
	}
	tear := by.next(8) - 1
	s.both(t, "Crash", func(d *disk.Disk) api.Errno { return d.Crash(keeps, tear) })
	if by.next(4) == 0 {
		s.g = opened(t, s.d, s.p.hows)
		s.p.wanted = nil
	}
}

// sets does what is done to the set alone.
func (s *scene) sets(t testing.TB, by *deeds) {
	t.Helper()
	switch by.next(8) {
	case 0, 1, 2:
		r := by.ref(len(s.p.hows))
		want(t, "Release", s.g.Release(r), s.p.release(r.Address))
	case 3, 4:
		if n, m := s.g.Settle(), s.p.settle(); n != m {
			t.Fatalf("Settle: %d, want %d", n, m)
		}
	case 5:
		hows := mixed(len(s.p.hows), by.next(256))
		want(t, "Reset", s.g.Reset(setOf(hows)), api.OK)
		s.p.hows = hows
	case 6:
		cut := by.next(3)
		want(t, "Reset", s.g.Reset(s.g.Free()[cut:]), []api.Errno{api.OK, api.ErrBytes, api.ErrBytes}[cut])
	case 7:
		want(t, "Reset", s.g.Reset(setOf(mixed(len(s.p.hows)+1, by.next(256)))), api.ErrBytes)
	}
}

// step does one deed to both.
func (s *scene) step(t testing.TB, by *deeds) {
	t.Helper()
	blocks := len(s.p.hows)
	switch by.next(14) {
	case 0, 1, 2:
		s.write(t, by.block(blocks))
	case 3, 4:
		s.read(t, by.ref(blocks), by.next(2) == 0)
	case 5, 6:
		s.reach(t, by.ref(blocks))
	case 7, 8:
		s.install(t, by)
	case 9, 10:
		s.sets(t, by)
	case 11:
		want(t, "Flush", s.g.Flush(), s.p.d.Flush())
	case 12:
		if by.next(2) == 0 {
			n := by.next(8)
			fuse(t, s.d, n)
			fuse(t, s.p.d, n)
			return
		}
		at, place, mask := 104+by.next(4*blocks), by.next(256), byte(by.next(256))
		s.both(t, "Turn", func(d *disk.Disk) api.Errno { return d.Turn(at, place, mask) })
	case 13:
		s.crash(t, by)
	}
}

// play does deeds to both, and wants them to be the same behind each.
func play(t testing.TB, blocks int, script []byte) {
	t.Helper()
	s := &scene{p: &plain{hows: all(blocks, free)}}
	s.g, s.d = fresh(t, blocks)
	s.p.d = s.d.Clone()
	by := &deeds{script}
	for len(by.b) > 0 && !t.Failed() {
		s.step(t, by)
		wantSet(t, "a script", s.g, s.p.hows)
		wantWanted(t, "a script", s.g, s.p.wanted...)
		wantSame(t, "a script", look(t, s.d), look(t, s.p.d))
	}
	s.both(t, "Crash", func(d *disk.Disk) api.Errno { return d.Crash(nil, -1) })
	for address := range blocks + 2 {
		for stamp := -1; stamp < 5; stamp++ {
			s.read(t, ref(address, stamp), stamp%2 == 0)
			s.reach(t, ref(address, stamp))
		}
	}
	wantWanted(t, "a script", s.g, s.p.wanted...)
}

// P11.1 to P11.5: a grid is as the plain one, behind each of many deeds, whatever happens to its disk.
func TestScripts(t *testing.T) {
	t.Parallel()
	chance := rand.New(rand.NewSource(11))
	for i := range 120 {
		script := make([]byte, 600)
		chance.Read(script)
		play(t, 1+i%9, script)
	}
}

// FuzzGrid looks for deeds behind which a grid is not as it must be.
func FuzzGrid(f *testing.F) {
	f.Add(byte(4), []byte{0, 0, 0, 5, 0, 3, 2, 9})
	f.Add(byte(2), bytes.Repeat([]byte{0, 16, 1, 100, 2, 8, 2, 9, 1, 0, 1, 1, 3, 18, 7, 5}, 12))
	f.Fuzz(func(t *testing.T, blocks byte, script []byte) {
		play(t, 1+int(blocks)%12, script[:min(len(script), 1000)])
	})
}

// The chapter's examples.
func TestExamples(t *testing.T) {
	d := newDisk(t, 120)
	g, e := grid.New(d, 4)
	ok(t, "New", e)
	a := api.GridBlock{Kind: 1, Ref: ref(1, 7), Body: []byte("a")}
	b := api.GridBlock{Kind: 2, Ref: ref(2, 7), Refs: []api.Ref{ref(1, 7)}, Body: []byte("b")}
	c := api.GridBlock{Kind: 3, Ref: ref(3, 8), Body: []byte("c")}
	wrote(t, g, a)
	wrote(t, g, b)
	wantRead(t, "1 7", g, a)
	raw, e := g.Raw(a.Ref)
	ok(t, "Raw", e)
	refuseRead(t, "1 8", g, ref(1, 8), api.ErrFaulty)
	wantWanted(t, "1 8", g, ref(1, 8))
	ok(t, "Turn", d.Turn(105, 9, 1))
	wantReach(t, "turned", g, b.Ref, a.Ref)
	ok(t, "Install", g.Install(a.Ref, raw))
	wantReach(t, "installed", g, b.Ref)
	wantWanted(t, "installed", g, ref(1, 8))
	want(t, "bytes of the block 2", g.Install(a.Ref, laid(b)), api.ErrArg)
	want(t, "3 bytes", g.Install(a.Ref, raw[:3]), api.ErrBytes)
	ok(t, "Release", g.Release(a.Ref))
	wrote(t, g, c)
	if n := g.Settle(); n != 1 {
		t.Errorf("Settle: %d", n)
	}
	c.Ref = ref(1, 9)
	wrote(t, g, c)
	refuseRead(t, "5 0", g, ref(5, 0), api.ErrArg)
	if x, e := grid.New(d, 5); x != nil || e != api.ErrRange {
		t.Errorf("New of 5 blocks: %v, %v", x, e)
	}
}
