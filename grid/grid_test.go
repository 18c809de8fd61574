package grid_test

import (
	"bytes"
	"crypto/sha256"
	"encoding/binary"
	"slices"
	"testing"

	"exchequer/api"
	"exchequer/disk"
	"exchequer/grid"
)

// most is the greatest that a Stamp may be.
const most = 1 << 30

// How a block is.
const (
	free  = 0
	taken = 1
	letGo = 2
)

// placeOf is the first sector of a block, and sectorsFor how many a disk must have for a grid.
func placeOf(address int) int   { return 104 + 4*(address-1) }
func sectorsFor(blocks int) int { return 104 + 4*blocks }

func ref(address, stamp int) api.Ref { return api.Ref{Address: address, Stamp: stamp} }

// reseal lays the seal anew, by the library's digest.
func reseal(raw []byte) []byte {
	whole := sha256.Sum256(raw[16:])
	copy(raw[:16], whole[:16])
	return raw
}

// laid is a block's bytes by the words of chapter 10; the block need not be one that may be.
func laid(b api.GridBlock) []byte {
	raw := make([]byte, 1024)
	l := []int{b.Kind, b.Ref.Address, b.Ref.Stamp, len(b.Refs), len(b.Body)}
	for _, r := range b.Refs {
		l = append(l, r.Address, r.Stamp)
	}
	for i, x := range l {
		binary.LittleEndian.PutUint32(raw[16+4*i:], uint32(x))
	}
	copy(raw[164:], b.Body)
	return reseal(raw)
}

// mayBe tells whether there may be such a block, by the words of chapter 10.
func mayBe(b api.GridBlock) bool {
	for _, r := range append([]api.Ref{b.Ref}, b.Refs...) {
		if r.Address < 1 || r.Address > 512 || r.Stamp < 0 || r.Stamp > most {
			return false
		}
	}
	return b.Kind >= 1 && b.Kind <= 15 && len(b.Refs) <= 16 && len(b.Body) <= 860
}

// parsed is what block.Read must tell of bytes, by the words of chapter 10: they are a block's if that block is laid as these.
func parsed(raw []byte) (api.GridBlock, api.Errno) {
	if len(raw) != 1024 {
		return api.GridBlock{}, api.ErrBytes
	}
	if !bytes.Equal(reseal(bytes.Clone(raw)), raw) {
		return api.GridBlock{}, api.ErrSeal
	}
	get := func(at int) int { return int(binary.LittleEndian.Uint32(raw[at:])) }
	b := api.GridBlock{Kind: get(16), Ref: ref(get(20), get(24))}
	if get(28) > 16 || get(32) > 860 {
		return api.GridBlock{}, api.ErrBytes
	}
	for i := range get(28) {
		b.Refs = append(b.Refs, ref(get(36+8*i), get(40+8*i)))
	}
	b.Body = bytes.Clone(raw[164 : 164+get(32)])
	if !mayBe(b) || !bytes.Equal(laid(b), raw) {
		return api.GridBlock{}, api.ErrBytes
	}
	return b, api.OK
}

// some is bytes of which no two that stand near are the same, and of which the first and the last are no noughts.
func some(count int) []byte {
	b := make([]byte, count)
	for i := range b {
		b[i] = byte(i*i*5 + i*29 + count + 1)
	}
	if count > 0 {
		b[0] |= 1
		b[count-1] |= 1
	}
	return b
}

// names are refs of which no two are the same.
func names(count int) []api.Ref {
	var l []api.Ref
	for i := range count {
		l = append(l, ref(512-31*i, most-0x01050301*i))
	}
	return l
}

// of is a block of a ref, of so many Refs and such a body.
func of(r api.Ref, refs, size int) api.GridBlock {
	return api.GridBlock{Kind: 9, Ref: r, Refs: names(refs), Body: some(size)}
}

// like is one of many blocks, the i-th, for a ref: all Kinds come, few and many Refs, short and long bodies.
func like(i int, r api.Ref) api.GridBlock {
	b := of(r, []int{0, 1, 16, 3, 2, 7, 15}[i%7], []int{0, 860, 1, 300, 92, 859, 44, 700}[i%8])
	b.Kind = 1 + i%15
	return b
}

// same tells whether two blocks are the same; lists that are nil or empty are.
func same(a, b api.GridBlock) bool {
	return a.Kind == b.Kind && a.Ref == b.Ref && slices.Equal(a.Refs, b.Refs) && bytes.Equal(a.Body, b.Body)
}

// setOf is a set's bytes by the words of chapter 9, of how its blocks are; these need not be such as may be.
func setOf(hows []int) []byte {
	b := []byte{byte(len(hows) % 256), byte(len(hows) / 256)}
	for i, how := range hows {
		if i%4 == 0 {
			b = append(b, 0)
		}
		b[len(b)-1] += byte(how << (i % 4 * 2))
	}
	return b
}

// all are so many blocks that are all alike.
func all(blocks, how int) []int { return slices.Repeat([]int{how}, blocks) }

// mixed are so many blocks of all kinds.
func mixed(blocks, seed int) []int {
	l := make([]int, blocks)
	x := uint64(seed)*2862933555777941757 + 3037000493
	for i := range l {
		x = x*6364136223846793005 + 1442695040888963407
		l[i] = int(x >> 33 % 3)
	}
	return l
}

// sets are sets of so many blocks: all alike, the first or the last one another one, and all kinds mixed.
func sets(blocks int) [][]int {
	l := [][]int{mixed(blocks, 1), mixed(blocks, 2)}
	for how := range 3 {
		l = append(l, all(blocks, how))
		for _, at := range []int{0, blocks - 1} {
			one := all(blocks, how)
			one[at] = (how + 1) % 3
			l = append(l, one)
		}
	}
	return l
}

// sizes are how many blocks the tests' grids have.
func sizes() []int { return []int{1, 2, 3, 4, 5, 63, 64, 65, 511, 512} }

// want holds an error against that which must come.
func want(t testing.TB, what string, got, want api.Errno) {
	t.Helper()
	if got != want {
		t.Errorf("%s: %v, want %v", what, got, want)
	}
}

// ok does not go on behind an error.
func ok(t testing.TB, what string, got api.Errno) {
	t.Helper()
	if got != api.OK {
		t.Fatalf("%s: %v", what, got)
	}
}

// newDisk is a new disk.
func newDisk(t testing.TB, sectors int) *disk.Disk {
	t.Helper()
	d, e := disk.New(sectors)
	ok(t, "disk.New", e)
	return d
}

// fresh is a new grid, and its disk, that has no more sectors than it must.
func fresh(t testing.TB, blocks int) (*grid.Grid, *disk.Disk) {
	t.Helper()
	d := newDisk(t, sectorsFor(blocks))
	g, e := grid.New(d, blocks)
	ok(t, "New", e)
	return g, d
}

// opened is a grid of a disk that has such a set.
func opened(t testing.TB, d *disk.Disk, hows []int) *grid.Grid {
	t.Helper()
	g, e := grid.Open(d, len(hows), setOf(hows))
	ok(t, "Open", e)
	return g
}

// fuse gives a disk a fuse.
func fuse(t testing.TB, d *disk.Disk, n int) {
	t.Helper()
	ok(t, "Fuse", disk.Fuse([]*disk.Disk{d}, n))
}

// blow lets a disk go out.
func blow(t testing.TB, d *disk.Disk) {
	t.Helper()
	fuse(t, d, 0)
	want(t, "Flush at a fuse of none", d.Flush(), api.ErrBroken)
}

// yes is a list of as many that are true.
func yes(count int) []bool { return slices.Repeat([]bool{true}, count) }

// spoil turns all bytes of a slice, and those of its spare room.
func spoil(b []byte) {
	b = b[:cap(b)]
	for i := range b {
		b[i] ^= 0xa5
	}
}

// spoilRefs sets all refs of a slice, and those of its spare room.
func spoilRefs(l []api.Ref) {
	l = l[:cap(l)]
	for i := range l {
		l[i] = ref(-7, -8)
	}
}

// lay writes a block's bytes to its place, behind the grid's back, and flushes.
func lay(t testing.TB, d *disk.Disk, b api.GridBlock) {
	t.Helper()
	layRaw(t, d, b.Ref.Address, laid(b))
}

func layRaw(t testing.TB, d *disk.Disk, address int, raw []byte) {
	t.Helper()
	ok(t, "disk.Write", d.Write(placeOf(address), raw))
	ok(t, "disk.Flush", d.Flush())
}

// wrote wants a Write to write a block at its Ref.
func wrote(t testing.TB, g *grid.Grid, b api.GridBlock) {
	t.Helper()
	if r, e := g.Write(b.Kind, b.Refs, b.Body, b.Ref.Stamp); r != b.Ref || e != api.OK {
		t.Fatalf("Write: %v, %v, want %v", r, e, b.Ref)
	}
}

// refuseWrite wants a Write to tell an error, and nothing beside it.
func refuseWrite(t testing.TB, what string, g *grid.Grid, b api.GridBlock, want api.Errno) {
	t.Helper()
	if r, e := g.Write(b.Kind, b.Refs, b.Body, b.Ref.Stamp); r != (api.Ref{}) || e != want {
		t.Errorf("%s: Write: %v, %v, want %v", what, r, e, want)
	}
}

// wantRead wants Read and Raw to tell a block.
func wantRead(t testing.TB, what string, g *grid.Grid, b api.GridBlock) {
	t.Helper()
	if x, e := g.Read(b.Ref); e != api.OK || !same(x, b) {
		t.Errorf("%s: Read(%v): %+v, %v, want %+v", what, b.Ref, x, e, b)
	}
	if raw, e := g.Raw(b.Ref); e != api.OK || !bytes.Equal(raw, laid(b)) {
		t.Errorf("%s: Raw(%v): %d bytes, %v, are not the block's", what, b.Ref, len(raw), e)
	}
}

// refuseRead wants Read and Raw to tell an error, and nothing beside it.
func refuseRead(t testing.TB, what string, g *grid.Grid, r api.Ref, want api.Errno) {
	t.Helper()
	if x, e := g.Read(r); e != want || !same(x, api.GridBlock{}) {
		t.Errorf("%s: Read(%v): %+v, %v, want %v", what, r, x, e, want)
	}
	if raw, e := g.Raw(r); e != want || len(raw) != 0 {
		t.Errorf("%s: Raw(%v): %d bytes, %v, want %v", what, r, len(raw), e, want)
	}
}

// wantSet wants a grid to have a set whose blocks are so.
func wantSet(t testing.TB, what string, g *grid.Grid, hows []int) {
	t.Helper()
	if b := g.Free(); !bytes.Equal(b, setOf(hows)) {
		t.Errorf("%s: Free: %v, want %v", what, b, setOf(hows))
	}
	var count [3]int
	for _, how := range hows {
		count[how]++
	}
	if f, k, l := g.Counts(); [3]int{f, k, l} != count {
		t.Errorf("%s: Counts: %d %d %d, want %v", what, f, k, l, count)
	}
}

// wantWanted wants just these refs to be wanted, in this order.
func wantWanted(t testing.TB, what string, g *grid.Grid, l ...api.Ref) {
	t.Helper()
	if got := g.Wanted(); !slices.Equal(got, l) {
		t.Errorf("%s: Wanted: %v, want %v", what, got, l)
	}
}

// wantReach wants Reach of a root to tell just these refs, in this order.
func wantReach(t testing.TB, what string, g *grid.Grid, root api.Ref, l ...api.Ref) {
	t.Helper()
	if got, e := g.Reach(root); e != api.OK || !slices.Equal(got, l) {
		t.Errorf("%s: Reach(%v): %v, %v, want %v", what, root, got, e, l)
	}
}

// refuseReach wants Reach of a root to tell an error, and nothing beside it.
func refuseReach(t testing.TB, what string, g *grid.Grid, root api.Ref, want api.Errno) {
	t.Helper()
	if got, e := g.Reach(root); e != want || len(got) != 0 {
		t.Errorf("%s: Reach(%v): %v, %v, want %v", what, root, got, e, want)
	}
}

// seen is all that calls can tell of a disk but its fuse, told by clones where telling would change it.
type seen struct {
	ops      int
	up       bool
	loose    []int
	now, old []byte
}

func look(t testing.TB, d *disk.Disk) seen {
	t.Helper()
	s := seen{ops: d.Ops(), up: d.Up(), loose: d.Loose()}
	kept, lost := d.Clone(), d.Clone()
	ok(t, "Crash", kept.Crash(yes(d.Sectors()), -1))
	ok(t, "Crash", lost.Crash(nil, -1))
	var e api.Errno
	s.now, e = kept.Read(0, d.Sectors())
	ok(t, "disk.Read", e)
	s.old, e = lost.Read(0, d.Sectors())
	ok(t, "disk.Read", e)
	return s
}

// wantSame wants two looks to have seen the same.
func wantSame(t testing.TB, what string, got, want seen) {
	t.Helper()
	if got.ops != want.ops || got.up != want.up || !slices.Equal(got.loose, want.loose) {
		t.Errorf("%s: %d changes, up %v, loose %v, want %d, %v, %v", what, got.ops, got.up, got.loose, want.ops, want.up, want.loose)
	}
	if !bytes.Equal(got.now, want.now) {
		t.Errorf("%s: the sectors are not as they must be", what)
	}
	if !bytes.Equal(got.old, want.old) {
		t.Errorf("%s: what the sectors were is not as it must be", what)
	}
}

// written is what a disk is behind one Write of a block's bytes to its place, its sectors having been safe.
func written(was seen, address int, raw []byte) seen {
	x := seen{ops: was.ops + 1, up: was.up, now: bytes.Clone(was.now), old: was.old}
	at := placeOf(address)
	copy(x.now[at*256:], raw)
	x.loose = []int{at, at + 1, at + 2, at + 3}
	return x
}
