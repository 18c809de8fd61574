package forest_test

import (
	"fmt"
	"slices"
	"strings"
	"testing"

	"exchequer/api"
	"exchequer/block"
	"exchequer/disk"
	"exchequer/forest"
	"exchequer/grid"
)

// most is the greatest that an op may be.
const most = 1 << 30

// item is a pair that can be held against another one.
type item struct {
	key, value string
	gone       bool
}

func (p item) String() string {
	if p.gone {
		return fmt.Sprintf("%.40q gone %q", p.key, p.value)
	}
	return fmt.Sprintf("%.40q %.10q", p.key, p.value)
}

// said takes items from a text: a key of one letter, and its value, or - for one that is Gone; parted by blanks.
func said(text string) []item {
	var l []item
	for _, word := range strings.Fields(text) {
		p := item{key: word[:1], value: word[1:]}
		if p.value == "-" {
			p.value, p.gone = "", true
		}
		l = append(l, p)
	}
	return l
}

func items(l []api.Pair) []item {
	var all []item
	for _, p := range l {
		all = append(all, item{string(p.Key), string(p.Value), p.Gone})
	}
	return all
}

func pairs(l []item) []api.Pair {
	var all []api.Pair
	for _, p := range l {
		all = append(all, api.Pair{Key: []byte(p.key), Value: []byte(p.value), Gone: p.gone})
	}
	return all
}

// numbered are so many pairs with keys of five digits, from one on.
func numbered(n, from int, value string) []item {
	var l []item
	for i := range n {
		l = append(l, item{key: fmt.Sprintf("%05d", from+i), value: value})
	}
	return l
}

// heavy are so many pairs of 162 bytes each, five of which stand in a block.
func heavy(n, from int, value string) []item {
	var l []item
	for i := range n {
		l = append(l, item{key: fmt.Sprintf("%032d", from+i), value: strings.Repeat(value, 128)[:128]})
	}
	return l
}

// scene is a grid and its disk.
type scene struct {
	d      *disk.Disk
	g      *grid.Grid
	blocks int
}

// begin is a scene of so many free blocks.
func begin(t testing.TB, blocks int) *scene {
	t.Helper()
	d, e := disk.New(104 + 4*blocks)
	ok(t, "disk.New", e)
	g, e := grid.New(d, blocks)
	ok(t, "grid.New", e)
	return &scene{d, g, blocks}
}

// clone is a scene of its own that is the same, but that its disk is up, has no fuse, and nothing is wanted.
func (s *scene) clone(t testing.TB) *scene {
	t.Helper()
	c := &scene{d: s.d.Clone(), blocks: s.blocks}
	if !c.d.Up() {
		ok(t, "Crash", c.d.Crash(slices.Repeat([]bool{true}, c.d.Sectors()), -1))
	}
	g, e := grid.Open(c.d, s.blocks, s.g.Free())
	ok(t, "grid.Open", e)
	c.g = g
	return c
}

// anew is a grid of free blocks on the same disk.
func (s *scene) anew(t testing.TB) *scene {
	t.Helper()
	g, e := grid.New(s.d, s.blocks)
	ok(t, "grid.New", e)
	return &scene{s.d, g, s.blocks}
}

// write writes a block.
func (s *scene) write(t testing.TB, kind int, refs []api.Ref, body string, stamp int) api.Ref {
	t.Helper()
	ref, e := s.g.Write(kind, refs, []byte(body), stamp)
	ok(t, "grid.Write", e)
	return ref
}

// turn turns a byte of a block.
func (s *scene) turn(t testing.TB, ref api.Ref, at int) {
	t.Helper()
	ok(t, "Turn", s.d.Turn(104+4*(ref.Address-1)+at/256, at%256, 1))
}

// fuse lets a disk make so many changes.
func (s *scene) fuse(t testing.TB, changes int) {
	t.Helper()
	ok(t, "Fuse", disk.Fuse([]*disk.Disk{s.d}, changes))
}

// blow lets the disk go out.
func (s *scene) blow(t testing.TB) {
	t.Helper()
	s.fuse(t, 0)
	want(t, "Flush at a fuse of none", s.d.Flush(), api.ErrBroken)
}

// back lets the disk crash, of which all loose sectors stay.
func (s *scene) back(t testing.TB) {
	t.Helper()
	ok(t, "Crash", s.d.Crash(slices.Repeat([]bool{true}, s.d.Sectors()), -1))
}

// fill takes blocks till just so many are free, and tells them.
func (s *scene) fill(t testing.TB, free int) []api.Ref {
	t.Helper()
	var l []api.Ref
	for n, _, _ := s.g.Counts(); n > free; n-- {
		l = append(l, s.write(t, 9, nil, "filled", 0))
	}
	return l
}

// bytesOf are the blocks' bytes as the disk has them, whether it is up or not; of each block 1,024.
func (s *scene) bytesOf(t testing.TB) string {
	t.Helper()
	d := s.d
	if !d.Up() {
		d = s.clone(t).d
	}
	b, e := d.Read(104, 4*s.blocks)
	ok(t, "disk.Read", e)
	return string(b)
}

// hows tells of each block, from 1 on, whether it is free (0), taken (1) or let go (2), by the words of chapter 9; at 0 nothing is told.
func hows(set []byte) []int {
	l := []int{0}
	for n := int(set[0]) + 256*int(set[1]); len(l) <= n; {
		i := len(l) - 1
		l = append(l, int(set[2+i/4]>>(i%4*2))&3)
	}
	return l
}

// setOf are the bytes of a set.
func setOf(hows []int) []byte {
	n := len(hows) - 1
	b := make([]byte, 2+(n+3)/4)
	b[0], b[1] = byte(n), byte(n/256)
	for i, how := range hows[1:] {
		b[2+i/4] |= byte(how) << (i % 4 * 2)
	}
	return b
}

// sealed are the bytes of a block.
func sealed(t testing.TB, b api.GridBlock) string {
	t.Helper()
	raw, e := block.Bytes(b)
	ok(t, "block.Bytes", e)
	return string(raw)
}

// want holds an error against that which must come.
func want(t testing.TB, what string, got, want api.Errno) {
	t.Helper()
	if got != want {
		t.Errorf("%s: %v, want %v", what, got, want)
	}
}

// ok does not go on behind an error.
func ok(t testing.TB, what string, got api.Errno) {
	t.Helper()
	if got != api.OK {
		t.Fatalf("%s: %v", what, got)
	}
}

// planted is a forest on a scene's grid.
func planted(t testing.TB, s *scene) *forest.Forest {
	t.Helper()
	f, e := forest.New(s.g)
	ok(t, "New", e)
	return f
}

// lay puts items into a tree, and marks for those that are gone.
func lay(t testing.TB, f *forest.Forest, tree int, l []item) {
	t.Helper()
	for _, p := range l {
		if p.gone {
			ok(t, fmt.Sprint("Remove ", p), f.Remove(tree, []byte(p.key)))
		} else {
			ok(t, fmt.Sprint("Put ", p), f.Put(tree, []byte(p.key), []byte(p.value)))
		}
	}
}

func wantGet(t testing.TB, what string, f *forest.Forest, tree int, key, value string, wrong api.Errno) {
	t.Helper()
	got, e := f.Get(tree, []byte(key))
	if e != wrong || string(got) != value {
		t.Errorf("%s: Get(%d, %.40q): %.40q, %v, want %.40q, %v", what, tree, key, got, e, value, wrong)
	}
}

func wantScan(t testing.TB, what string, f *forest.Forest, tree int, from, to string, n int, l []item, wrong api.Errno) {
	t.Helper()
	got, e := f.Scan(tree, []byte(from), []byte(to), n)
	if e != wrong || !slices.Equal(items(got), l) {
		t.Errorf("%s: Scan(%d, %.40q, %.40q, %d): %v, %v, want %v, %v", what, tree, from, to, n, items(got), e, l, wrong)
	}
}

func wantCheckpoint(t testing.TB, what string, f *forest.Forest, op int, extra string, root api.Ref, wrong api.Errno) {
	t.Helper()
	got, e := f.Checkpoint(op, []byte(extra))
	if e != wrong || got != root {
		t.Errorf("%s: Checkpoint(%d, %d bytes): %v, %v, want %v, %v", what, op, len(extra), got, e, root, wrong)
	}
}

// wantSizes wants a forest's sizes: five numbers of each tree that has any, others being noughts.
func wantSizes(t testing.TB, what string, f *forest.Forest, of map[int][5]int) {
	t.Helper()
	var l []int
	for tree := range 6 {
		sizes := of[tree]
		l = append(l, sizes[:]...)
	}
	if got := f.Sizes(); !slices.Equal(got, l) {
		t.Errorf("%s: Sizes: %v, want %v", what, got, l)
	}
}

// opened opens a forest, which must come to be.
func (s *scene) opened(t testing.TB, root api.Ref, extra string) *forest.Forest {
	t.Helper()
	f, x, e := forest.Open(s.g, root)
	ok(t, fmt.Sprint("Open ", root), e)
	if string(x) != extra {
		t.Errorf("Open %v: %d extra bytes %.40q, want %d %.40q", root, len(x), x, len(extra), extra)
	}
	return f
}

// refuseOpen wants Open to tell an error, no forest and no bytes, and the grid to have the set that it had.
func (s *scene) refuseOpen(t testing.TB, what string, root api.Ref, wrong api.Errno) {
	t.Helper()
	was, ops := s.g.Free(), s.d.Ops()
	f, x, e := forest.Open(s.g, root)
	if e != wrong || f != nil || len(x) > 0 {
		t.Errorf("%s: Open %v: %t, %d bytes, %v, want %v", what, root, f != nil, len(x), e, wrong)
	}
	if string(s.g.Free()) != string(was) || s.d.Ops() != ops {
		t.Errorf("%s: Open %v: the grid has changed", what, root)
	}
}

// wantWanted wants just these refs to be wanted of the grid.
func (s *scene) wantWanted(t testing.TB, what string, l ...api.Ref) {
	t.Helper()
	if got := s.g.Wanted(); !slices.Equal(got, l) {
		t.Errorf("%s: wanted are %v, want %v", what, got, l)
	}
}

// The chapter's examples.
func TestExamples(t *testing.T) {
	s := begin(t, 40)
	f := planted(t, s)
	want(t, "Put(0, a, 1)", f.Put(0, []byte("a"), []byte("1")), api.OK)
	want(t, "Put(5, b, 2)", f.Put(5, []byte("b"), []byte("2")), api.OK)
	wantGet(t, "in memory", f, 0, "a", "1", api.OK)
	wantGet(t, "in memory", f, 1, "a", "", api.ErrMissing)
	root := api.Ref{Address: 8, Stamp: 8}
	wantCheckpoint(t, "the first", f, 8, "xyz", root, api.OK)
	for i, kind := range []int{api.KindData, api.KindIndex, api.KindData, api.KindIndex, api.KindExtra, api.KindManifest, api.KindFree, api.KindRoot} {
		b, e := s.g.Read(api.Ref{Address: i + 1, Stamp: 8})
		if e != api.OK || b.Kind != kind {
			t.Errorf("the block %d: %v, %v, want the kind %d", i+1, b, e, kind)
		}
	}
	want(t, "Remove(0, a)", f.Remove(0, []byte("a")), api.OK)
	wantGet(t, "removed", f, 0, "a", "", api.ErrMissing)
	f = s.opened(t, root, "xyz")
	wantGet(t, "opened", f, 0, "a", "1", api.OK)
	wantScan(t, "opened", f, 0, "", "", 5, said("a1"), api.OK)
	want(t, "Put(6, a, 1)", f.Put(6, []byte("a"), []byte("1")), api.ErrArg)
	want(t, "Tick(0)", f.Tick(0), api.ErrArg)
	s.refuseOpen(t, "no block", api.Ref{Address: 9, Stamp: 8}, api.ErrFaulty)
	s.refuseOpen(t, "no root", api.Ref{Address: 1, Stamp: 8}, api.ErrFaulty)
}
