package forest_test

import (
	"fmt"
	"slices"
	"strings"
	"testing"

	"exchequer/api"
)

// wantBlocks wants the blocks from an address on to be these, byte by byte; their Refs are told here, but not their own.
func (s *scene) wantBlocks(t testing.TB, what string, from, stamp int, l ...api.GridBlock) {
	t.Helper()
	for i, b := range l {
		b.Ref = api.Ref{Address: from + i, Stamp: stamp}
		got, e := s.g.Raw(b.Ref)
		if e != api.OK || string(got) != sealed(t, b) {
			g, _ := s.g.Read(b.Ref)
			t.Errorf("%s: the block %v: %v, %v, want %v", what, b.Ref, g, e, b)
		}
	}
}

// at are refs of one stamp.
func at(stamp int, addresses ...int) []api.Ref {
	var l []api.Ref
	for _, a := range addresses {
		l = append(l, api.Ref{Address: a, Stamp: stamp})
	}
	return l
}

// wantSet wants of the blocks of a grid these to be taken and these to be let go, all others to be free.
func (s *scene) wantSet(t testing.TB, what string, taken, gone []int) {
	t.Helper()
	l := make([]int, s.blocks+1)
	for _, a := range taken {
		l[a] = 1
	}
	for _, a := range gone {
		l[a] = 2
	}
	if got := hows(s.g.Free()); !slices.Equal(got, l) {
		t.Errorf("%s: the blocks are %v, want %v", what, got, l)
	}
}

// to are the numbers from one to another one.
func to(from, last int) []int {
	var l []int
	for ; from <= last; from++ {
		l = append(l, from)
	}
	return l
}

// P16.4: the blocks of three checkpoints, by hand: their order, kinds, Refs, bodies and stamps; what is taken and let go.
func TestBlocksOfCheckpoints(t *testing.T) {
	s := begin(t, 40)
	f := planted(t, s)
	lay(t, f, 0, said("a1 c-"))
	lay(t, f, 5, said("b2"))
	wantCheckpoint(t, "the first", f, 8, "xyz", at(8, 8)[0], api.OK)
	s.wantBlocks(t, "the first", 1, 8,
		api.GridBlock{Kind: 1, Body: []byte("\x01a\x011\x01c\xff")},
		api.GridBlock{Kind: 2, Refs: at(8, 1), Body: []byte("\x01a")},
		api.GridBlock{Kind: 1, Body: []byte("\x01b\x012")},
		api.GridBlock{Kind: 2, Refs: at(8, 3), Body: []byte("\x01b")},
		api.GridBlock{Kind: 4, Body: []byte("xyz")},
		api.GridBlock{Kind: 3, Refs: at(8, 2, 4), Body: []byte("\x00\x00\x02\x01a\x01c\x05\x00\x01\x01b\x01b")},
		api.GridBlock{Kind: 5, Body: []byte("\x28\x00\x55\x55\x00\x00\x00\x00\x00\x00\x00\x00")},
		api.GridBlock{Kind: 6, Refs: at(8, 7, 6, 5), Body: []byte("\x08\x00\x00\x00\x03")},
	)
	s.wantSet(t, "the first", to(1, 8), nil)

	// The second one has one more table, and no extra bytes; it lets the first one's blocks go.
	lay(t, f, 5, said("c3 d4"))
	wantCheckpoint(t, "the second", f, 0x12345678-0x04000000, "", at(0x0e345678, 13)[0], api.OK)
	s.wantBlocks(t, "the second", 9, 0x0e345678,
		api.GridBlock{Kind: 1, Body: []byte("\x01c\x013\x01d\x014")},
		api.GridBlock{Kind: 2, Refs: at(0x0e345678, 9), Body: []byte("\x01c")},
		api.GridBlock{Kind: 3, Refs: slices.Concat(at(8, 2), at(0x0e345678, 10), at(8, 4)), Body: []byte("\x00\x00\x02\x01a\x01c\x05\x00\x02\x01c\x01d\x05\x00\x01\x01b\x01b")},
		api.GridBlock{Kind: 5, Body: []byte("\x28\x00\x55\x00\x55\x01\x00\x00\x00\x00\x00\x00")},
		api.GridBlock{Kind: 6, Refs: at(0x0e345678, 12, 11), Body: []byte("\x78\x56\x34\x0e\x01")},
	)
	s.wantSet(t, "the second", slices.Concat(to(1, 4), to(9, 13)), to(5, 8))
	if n := f.Settle(); n != 4 {
		t.Errorf("Settle: %d, want 4", n)
	}

	// The third one takes what was freed.
	wantCheckpoint(t, "the third", f, 1, "!", at(1, 8)[0], api.OK)
	s.wantBlocks(t, "the third", 5, 1,
		api.GridBlock{Kind: 4, Body: []byte("!")},
		api.GridBlock{Kind: 3, Refs: slices.Concat(at(8, 2), at(0x0e345678, 10), at(8, 4)), Body: []byte("\x00\x00\x02\x01a\x01c\x05\x00\x02\x01c\x01d\x05\x00\x01\x01b\x01b")},
		api.GridBlock{Kind: 5, Body: []byte("\x28\x00\x55\x55\x05\x00\x00\x00\x00\x00\x00\x00")},
		api.GridBlock{Kind: 6, Refs: at(1, 7, 6, 5), Body: []byte("\x01\x00\x00\x00\x03")},
	)
	s.wantSet(t, "the third", to(1, 10), to(11, 13))
	if loose := s.d.Loose(); len(loose) > 0 {
		t.Errorf("the sectors %v are loose", loose)
	}
}

// P16.4: a checkpoint without tables has no manifest block; one without extra bytes no extra one; one of neither has two blocks.
func TestCheckpointOfNothing(t *testing.T) {
	s := begin(t, 5)
	f := planted(t, s)
	wantCheckpoint(t, "nothing", f, 1, "", at(1, 2)[0], api.OK)
	s.wantBlocks(t, "nothing", 1, 1,
		api.GridBlock{Kind: 5, Body: []byte("\x05\x00\x05\x00")},
		api.GridBlock{Kind: 6, Refs: at(1, 1), Body: []byte("\x01\x00\x00\x00\x00")},
	)
	s.wantSet(t, "nothing", to(1, 2), nil)
	wantCheckpoint(t, "extra bytes alone", f, most, "x", at(most, 5)[0], api.OK)
	s.wantBlocks(t, "extra bytes alone", 3, most,
		api.GridBlock{Kind: 4, Body: []byte("x")},
		api.GridBlock{Kind: 5, Body: []byte("\x05\x00\x50\x01")},
		api.GridBlock{Kind: 6, Refs: at(most, 4, 3), Body: []byte("\x00\x00\x00\x40\x02")},
	)
	s.wantSet(t, "extra bytes alone", to(3, 5), to(1, 2))
	wantSizes(t, "nothing", f, nil)
	wantSizes(t, "nothing, opened", s.anew(t).opened(t, at(most, 5)[0], "x"), nil)
	wantSizes(t, "nothing, opened at the first", s.anew(t).opened(t, at(1, 2)[0], ""), nil)
}

// P16.4: an op that is not from 1 to 2^30 is ErrArg, ahead of too many extra bytes; these are ErrLong, ahead of all else; nothing is done with either.
func TestOpsOfCheckpoint(t *testing.T) {
	for op, wrong := range ops() {
		x := twins(t, 60)
		x.lay(t, 3, said("a1"))
		for _, n := range []int{12901, 1 << 20} {
			long := wrong
			if wrong == api.OK {
				long = api.ErrLong
			}
			changes := x.d.Ops()
			wantCheckpoint(t, "too long", x.f, op, strings.Repeat("x", n), api.Ref{}, long)
			if x.d.Ops() != changes {
				t.Errorf("op %d: something was written", op)
			}
			x.blow(t)
			wantCheckpoint(t, "too long, and the disk is out", x.f, op, strings.Repeat("x", n), api.Ref{}, long)
			x.back(t)
			x.alike(t, "too long")
		}
		root, _ := x.checkpoint(t, "an op", op, "xyz")
		if wrong == api.OK {
			wantScan(t, "opened", x.anew(t).opened(t, root, "xyz"), 3, "", "", 5, said("a1"), api.OK)
		}
		x.goOn(t, fmt.Sprint("op ", op), 5)
	}
	x := twins(t, 9)
	x.lay(t, 3, said("a1"))
	x.both(func(s *scene) { s.fill(t, 0) })
	wantCheckpoint(t, "too long, and no room", x.f, 8, strings.Repeat("x", 12901), api.Ref{}, api.ErrLong)
	x.checkpoint(t, "no room", 8, strings.Repeat("x", 12900))
}

// P16.4: the extra bytes stand in parts of 860, the last of which is written first and may be shorter; each names the next one.
func TestExtraBytes(t *testing.T) {
	for _, n := range []int{0, 1, 2, 859, 860, 861, 1719, 1720, 1721, 12039, 12040, 12041, 12899, 12900} {
		x := twins(t, 60)
		extra := ""
		for i := range n {
			extra += string([]byte{byte(i*7 + i/256)})
		}
		what := fmt.Sprint(n, " bytes")
		root, e := x.checkpoint(t, what, 8, extra)
		parts := (n + 859) / 860
		if e != api.OK || root != at(8, parts+2)[0] {
			t.Fatalf("%s: %v, %v", what, root, e)
		}
		refs := at(8, parts+1)
		for i := range parts {
			b := api.GridBlock{Kind: 4, Body: []byte(extra[860*i : min(n, 860*(i+1))])}
			if i+1 < parts {
				b.Refs = at(8, parts-i-1)
			}
			x.wantBlocks(t, what, parts-i, 8, b)
		}
		if parts > 0 {
			refs = append(refs, at(8, parts)...)
		}
		x.wantBlocks(t, what, parts+2, 8, api.GridBlock{Kind: 6, Refs: refs, Body: []byte(rootBody(8, false, parts > 0))})
		s := x.scene.anew(t)
		f := s.opened(t, root, extra)
		x.checkpoint(t, what+", again", 9, extra)
		x.goOn(t, what, 10)
		s.wantSet(t, what, to(1, parts+2), nil)
		wantCheckpoint(t, what+", and behind that", f, 16, extra[:n/2], at(16, parts+2+(n/2+859)/860+2)[0], api.OK)
	}
}

// keyed is a key of so many bytes, which begins with a number.
func keyed(i, size int) string { return fmt.Sprintf("%03d%s", i, strings.Repeat("k", size))[:size] }

// small are the items of a table of one key of so many bytes; above 100 of two, of which the second one has one byte more.
func small(i, size int) []item {
	if size <= 100 {
		return []item{{key: keyed(i, size), value: "v"}}
	}
	return []item{{key: keyed(i, size-100), value: "v"}, {key: keyed(i, size-99), value: "v"}}
}

// P16.4: a manifest block has at most 15 tables, and a body of at most 860 bytes; a table begins a new part only where it must.
func TestPartsOfManifest(t *testing.T) {
	for _, c := range []struct {
		what  string
		sizes []int // of each table's key, in the order in which they stand
		parts []int // how many tables each part has
	}{
		{"one", []int{3}, []int{1}},
		{"14", slices.Repeat([]int{3}, 14), []int{14}},
		{"15", slices.Repeat([]int{3}, 15), []int{15}},
		{"16", slices.Repeat([]int{3}, 16), []int{15, 1}},
		{"30", slices.Repeat([]int{3}, 30), []int{15, 15}},
		{"31", slices.Repeat([]int{3}, 31), []int{15, 15, 1}},
		{"12 of 69 bytes", slices.Repeat([]int{32}, 12), []int{12}},
		{"13 of 69 bytes", slices.Repeat([]int{32}, 13), []int{12, 1}},
		{"12 of 69 bytes, and one of 11", append(slices.Repeat([]int{32}, 12), 3), []int{13}},
		{"25 of 69 bytes", slices.Repeat([]int{32}, 25), []int{12, 12, 1}},
		{"just 860 bytes", append(slices.Repeat([]int{32}, 11), 30, 10, 3), []int{14}},
		{"861 bytes would be", append(slices.Repeat([]int{32}, 11), 129, 11, 3), []int{13, 1}},
		{"just 860 bytes of 15", append(slices.Repeat([]int{26}, 14), 128), []int{15}},
		{"861 bytes of 15 would be", append(slices.Repeat([]int{26}, 14), 29), []int{14, 1}},
		{"just 860 bytes, and one more", append(slices.Repeat([]int{32}, 11), 30, 10, 3, 3), []int{14, 1}},
		{"a small one behind one that does not fit", append(slices.Repeat([]int{32}, 13), 3), []int{12, 2}},
	} {
		x := twins(t, 200)
		for i, size := range slices.Backward(c.sizes) {
			// The newest table stands first.
			x.lay(t, 2, small(i, size))
			if i > 0 {
				x.checkpoint(t, c.what, 1+i, "")
				x.settle(t, c.what)
			}
		}
		root, e := x.checkpoint(t, c.what, 100, "")
		ok(t, c.what, e)
		b, e := x.g.Read(root)
		if e != api.OK || len(b.Refs) != 2 {
			t.Fatalf("%s: the root: %v, %v", c.what, b, e)
		}
		next, told := b.Refs[1], 0
		var written []api.Ref
		for i, n := range c.parts {
			written = append(written, next)
			m, e := x.g.Read(next)
			text := ""
			for range n {
				l := small(told, c.sizes[told])
				text += "\x02\x00" + string([]byte{byte(len(l))}) + sized([]byte(l[0].key)) + sized([]byte(l[len(l)-1].key))
				told++
			}
			if last := i+1 == len(c.parts); e != api.OK || m.Kind != 3 || string(m.Body) != text || last != (len(m.Refs) == n) || !last && len(m.Refs) != n+1 {
				t.Fatalf("%s: the part %d: kind %d, %d refs, %q, %v, want %d tables %q", c.what, i, m.Kind, len(m.Refs), m.Body, e, n, text)
			}
			next = m.Refs[len(m.Refs)-1]
		}
		if told != len(c.sizes) {
			t.Errorf("%s: %d tables are in parts", c.what, told)
		}
		// The last part is written first, and so has the lowest free place.
		for i := range written[1:] {
			if written[i].Address <= written[i+1].Address {
				t.Errorf("%s: the parts stand at %v", c.what, written)
			}
		}
		x.settle(t, c.what)
		wantScan(t, c.what, x.scene.anew(t).opened(t, root, ""), 2, "", "", 1, small(0, c.sizes[0])[:1], api.OK)
	}
}

// P16.4: the manifest has tables by trees, levels, and their order there.
func TestOrderOfManifest(t *testing.T) {
	x := twins(t, 300)
	for i := range 11 {
		for tree := range 6 {
			if tree != 1 {
				x.lay(t, tree, numbered(1+tree, 10*((i*7)%11), "v"))
			}
		}
		x.checkpoint(t, "one more", 1+i, "")
		x.settle(t, "one more")
		if i%5 == 4 {
			x.tick(t, "one more", 1+i)
			x.settle(t, "one more")
		}
	}
	root, e := x.checkpoint(t, "the last", 100, "")
	ok(t, "Checkpoint", e)
	x.settle(t, "the last")
	var all, wanted []string
	for _, p := range x.told(t, root).manifest {
		for s := p.body; len(s) > 0; {
			first := s[4 : 4+s[3]]
			all = append(all, fmt.Sprint(s[0], s[1], s[2], " ", first))
			s = s[5+int(s[3])+int(s[4+s[3]]):]
		}
	}
	for tree := range 6 {
		for at, l := range x.p.trees[tree].levels {
			for _, r := range l {
				wanted = append(wanted, fmt.Sprint(tree, at, r.Count, " ", string(r.First)))
			}
		}
	}
	if !slices.Equal(all, wanted) || len(all) != 10 {
		t.Errorf("the manifest has %v, want %v", all, wanted)
	}
	x.goOn(t, "the last", 101)
}

// P16.4: all pairs in memory are written out, of each tree that has any, however few, tree by tree; marks, too.
func TestWhatCheckpointWritesOut(t *testing.T) {
	for _, n := range []int{1, 5, 31, 32, 33, 64} {
		x := twins(t, 200)
		for _, tree := range []int{1, 2, 4} {
			x.lay(t, tree, heavy(n, tree, fmt.Sprint(tree)))
		}
		x.lay(t, 5, said("a-"))
		what := fmt.Sprint(n, " pairs")
		root, e := x.checkpoint(t, what, 8, "xyz")
		ok(t, what, e)
		wantSizes(t, what, x.f, map[int][5]int{1: {0, 1}, 2: {0, 1}, 4: {0, 1}, 5: {0, 1}})
		data := strings.Repeat("1 ", (n+4)/5) + "2 "
		if got := x.kinds(t, 1, root.Address, 8); got != strings.Repeat(data, 3)+"1 2 4 3 5 6" {
			t.Errorf("%s: kinds %s", what, got)
		}
		for _, tree := range []int{1, 2, 4} {
			wantScan(t, what, x.f, tree, "", "", 1000, heavy(n, tree, fmt.Sprint(tree)), api.OK)
		}
		x.goOn(t, what, 9)
	}
}

// P16.4: what the block of free ones has: what is taken once all is settled, itself and the root with it; not what is let go, though that is not settled yet.
func TestFreeBlockOfCheckpoint(t *testing.T) {
	s := begin(t, 45)
	gone := s.fill(t, 42)
	f := planted(t, s)
	ok(t, "Release", s.g.Release(gone[1]))
	lay(t, f, 0, said("a1"))
	wantCheckpoint(t, "the first", f, 1, "x", at(1, 9)[0], api.OK) // 1 and 3 are taken, 2 let go; 4 to 9 are new
	s.wantBlocks(t, "the first", 8, 1, api.GridBlock{Kind: 5, Body: append([]byte{45, 0, 0b01010001, 0b01010101, 0b00000001}, make([]byte, 9)...)})
	s.wantSet(t, "the first", append([]int{1}, to(3, 9)...), []int{2})
	wantCheckpoint(t, "the second", f, 2, "", at(2, 12)[0], api.OK) // 6 to 9 are let go; 10 to 12 are new
	s.wantBlocks(t, "the second", 11, 2, api.GridBlock{Kind: 5, Body: append([]byte{45, 0, 0b01010001, 0b00000001, 0b01010100}, make([]byte, 9)...)})
	s.wantSet(t, "the second", slices.Concat([]int{1, 3, 4, 5}, to(10, 12)), []int{2, 6, 7, 8, 9})
	// It is what the forest's own grid has, once that is settled.
	o := s.anew(t)
	o.opened(t, at(2, 12)[0], "")
	if n := f.Settle(); n != 5 || !slices.Equal(o.g.Free(), s.g.Free()) {
		t.Errorf("Settle: %d; %v, opened %v", n, hows(s.g.Free()), hows(o.g.Free()))
	}
	// Two that are not next to one another: the lowest free ones.
	wantCheckpoint(t, "the third", f, 3, "yy", at(3, 8)[0], api.OK)
	s.wantBlocks(t, "the third", 7, 3, api.GridBlock{Kind: 5, Body: append([]byte{45, 0, 0b01010101, 0b01010101, 0b00000000}, make([]byte, 9)...)})
	s.wantSet(t, "the third", to(1, 8), to(10, 12))
}

// P16.4: Settle frees what was let go, by whomever, and tells how many; not what is taken.
func TestSettle(t *testing.T) {
	s := begin(t, 40)
	f := planted(t, s)
	for _, n := range []int{0, 0} {
		if got := f.Settle(); got != n {
			t.Errorf("Settle: %d, want %d", got, n)
		}
	}
	l := s.fill(t, 36)
	for _, ref := range l[:3] {
		ok(t, "Release", s.g.Release(ref))
	}
	if got := f.Settle(); got != 3 {
		t.Errorf("Settle: %d, want 3", got)
	}
	s.wantSet(t, "settled", []int{4}, nil)
	s.blow(t)
	ok(t, "Release", s.g.Release(l[3]))
	if got := f.Settle(); got != 1 {
		t.Errorf("Settle of a grid that is out: %d, want 1", got)
	}
	s.wantSet(t, "settled", nil, nil)
}

// P16.4: the last checkpoint's blocks are let go, in the order in which they were written, or read: up to the first that can't be, which is the error; then all is as it was.
func TestReleaseOfTheLastOne(t *testing.T) {
	for _, read := range []bool{false, true} {
		for i := 5; i <= 11; i++ {
			x := twins(t, 60)
			x.lay(t, 0, said("a1"))
			x.lay(t, 1, said("b1"))
			root, e := x.checkpoint(t, "the first", 8, strings.Repeat("x", 3000))
			if e != api.OK || root.Address != 11 {
				t.Fatalf("Checkpoint: %v, %v", root, e)
			}
			if read {
				x.reopen(t, root)
			}
			x.both(func(s *scene) { ok(t, "Release", s.g.Release(api.Ref{Address: i})) })
			x.lay(t, 2, said("c1"))
			what := fmt.Sprint("the block ", i, " is let go")
			if _, e := x.checkpoint(t, what, 9, "y"); e != api.ErrState {
				t.Errorf("%s: %v", what, e)
			}
			wantSizes(t, what, x.f, map[int][5]int{0: {0, 1}, 1: {0, 1}, 2: {1}})
			// Once it is settled, and taken anew, all goes on.
			x.settle(t, what)
			x.both(func(s *scene) { s.write(t, 9, nil, "anew", 9) })
			if _, e := x.checkpoint(t, what, 9, "y"); e != api.OK {
				t.Errorf("%s, then taken: %v", what, e)
			}
			x.goOn(t, what, 10)
		}
	}
}

// reopen opens both anew, on the grids that they have.
func (x *twin) reopen(t testing.TB, root api.Ref) {
	t.Helper()
	p, extra, e := x.p.scene.open(root)
	ok(t, "open", e)
	x.p, x.f = p, x.scene.opened(t, root, extra)
	x.alike(t, "opened anew")
}

// P16.4: a checkpoint behind one that was opened lets its blocks go; those of one that nobody opened stay.
func TestCheckpointsOfTwoForests(t *testing.T) {
	s := begin(t, 60)
	a := planted(t, s)
	lay(t, a, 0, said("a1"))
	wantCheckpoint(t, "the first", a, 8, "x", at(8, 6)[0], api.OK)
	b := s.opened(t, at(8, 6)[0], "x")
	wantCheckpoint(t, "the other one's", b, 9, "", at(9, 9)[0], api.OK)
	s.wantSet(t, "the other one's", []int{1, 2, 7, 8, 9}, []int{3, 4, 5, 6})
	was := s.g.Free()
	wantCheckpoint(t, "what it would let go is let go", a, 10, "", api.Ref{}, api.ErrState)
	if !slices.Equal(s.g.Free(), was) {
		t.Errorf("the blocks are %v", hows(s.g.Free()))
	}
	wantCheckpoint(t, "the other one's second", b, 11, "", at(11, 12)[0], api.OK)
	s.wantSet(t, "the other one's second", []int{1, 2, 10, 11, 12}, to(3, 9))
	c := planted(t, s)
	wantCheckpoint(t, "of one without any", c, 12, "", at(12, 14)[0], api.OK)
	s.wantSet(t, "of one without any", []int{1, 2, 10, 11, 12, 13, 14}, to(3, 9))
}
