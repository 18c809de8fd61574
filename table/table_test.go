package table_test

import (
	"bytes"
	"crypto/sha256"
	"encoding/binary"
	"fmt"
	"math/rand"
	"slices"
	"sort"
	"strings"
	"testing"

	"exchequer/api"
	"exchequer/disk"
	"exchequer/grid"
	"exchequer/table"
)

// most is the greatest that a Stamp may be.
const most = 1 << 30

// How a block is.
const (
	free  = 0
	taken = 1
	letGo = 2
)

// placeOf is the first sector of a block.
func placeOf(address int) int { return 104 + 4*(address-1) }

func ref(address, stamp int) api.Ref { return api.Ref{Address: address, Stamp: stamp} }

// item is a pair whose parts can be compared.
type item struct {
	key, value string
	gone       bool
}

func (p item) String() string {
	if p.gone {
		return fmt.Sprintf("%q gone %q", p.key, p.value)
	}
	return fmt.Sprintf("%q %q", p.key, p.value)
}

// counted is how many bytes a text has, in a byte, and it.
func counted(s string) string { return string([]byte{byte(len(s))}) + s }

// bytes are a pair's bytes, by the chapter's words.
func (p item) bytes() string {
	if p.gone {
		return counted(p.key) + "\xff"
	}
	return counted(p.key) + counted(p.value)
}

// packed are the bodies of the data blocks of pairs, by the chapter's words.
func packed(l []item) []string {
	var bodies []string
	for _, p := range l {
		last := len(bodies) - 1
		if last < 0 || len(bodies[last]+p.bytes()) > 860 {
			bodies = append(bodies, "")
			last++
		}
		bodies[last] += p.bytes()
	}
	return bodies
}

// parsed are the pairs of a data block's body, and whether it is as said, by the chapter's words.
func parsed(body string) (l []item, is bool) {
	for rest := body; rest != ""; {
		n := int(rest[0])
		if n < 1 || n > 32 || len(rest) < n+2 {
			return nil, false
		}
		p := item{key: rest[1 : n+1]}
		m := int(rest[n+1])
		rest = rest[n+2:]
		switch {
		case m == 255:
			p.gone = true
		case m > 128 || m > len(rest):
			return nil, false
		default:
			p.value, rest = rest[:m], rest[m:]
		}
		if len(l) > 0 && l[len(l)-1].key >= p.key {
			return nil, false
		}
		l = append(l, p)
	}
	return l, len(l) > 0 && len(body) <= 860
}

// parsedKeys are the keys of an index block's body, and whether it is as said.
func parsedKeys(body string) (keys []string, is bool) {
	for body != "" {
		n := int(body[0])
		if n < 1 || n > 32 || len(body) < n+1 {
			return nil, false
		}
		keys, body = append(keys, body[1:n+1]), body[n+1:]
	}
	for i := 1; i < len(keys); i++ {
		if keys[i-1] >= keys[i] {
			return nil, false
		}
	}
	return keys, len(keys) > 0
}

// pairs are items as pairs, each in memory of its own.
func pairs(l []item) []api.Pair {
	var all []api.Pair
	for _, p := range l {
		all = append(all, api.Pair{Key: []byte(p.key), Value: []byte(p.value), Gone: p.gone})
	}
	return all
}

func items(l []api.Pair) []item {
	var all []item
	for _, p := range l {
		all = append(all, item{string(p.Key), string(p.Value), p.Gone})
	}
	return all
}

// firsts are the first keys of the data blocks of pairs.
func firsts(l []item) []string {
	var keys []string
	for _, body := range packed(l) {
		x, _ := parsed(body)
		keys = append(keys, x[0].key)
	}
	return keys
}

// heavy are so many pairs of 162 bytes each, which is the most; five of them stand in a block.
func heavy(n int) []item {
	var l []item
	for i := range n {
		l = append(l, item{key: fmt.Sprintf("%032d", 2*i+1), value: strings.Repeat(string(rune('a'+i%26)), 128)})
	}
	return l
}

// light are so many pairs of three bytes each, which is the fewest; every third is Gone.
func light(n int) []item {
	var l []item
	for i := range n {
		l = append(l, item{key: string([]byte{byte(3*i + 1)}), gone: i%3 == 2})
	}
	return l
}

// mixed are so many pairs with keys of 1 to 32 bytes and values of 0 to 128; every fifth is Gone.
func mixed(n, seed int) []item {
	chance := rand.New(rand.NewSource(int64(1000*seed + n)))
	there := map[string]item{}
	for len(there) < n {
		b := make([]byte, 160)
		chance.Read(b)
		p := item{key: string(b[:1+chance.Intn(32)]), value: string(b[32 : 32+chance.Intn(129)])}
		if len(there)%5 == 4 {
			p.value, p.gone = "", true
		}
		there[p.key] = p
	}
	return sorted(there)
}

// sorted are items by their keys.
func sorted(there map[string]item) []item {
	var l []item
	for _, p := range there {
		l = append(l, p)
	}
	sort.Slice(l, func(i, j int) bool { return l[i].key < l[j].key })
	return l
}

// edgeKeys are keys that may be, in order: the lowest and the highest ones, keys that are another one's beginning, of bytes 0 and 255, of the fewest and the most bytes.
func edgeKeys() []string {
	return []string{
		"\x00", "\x00\x00", strings.Repeat("\x00", 31), strings.Repeat("\x00", 32), "\x00\x01", "\x00\xff", "\x01", "\x01\x00",
		"A", "a", "a\x00", "a\x00\x00", "aa", "ab", "a\x7f", "a\x80", "a\xff", "b", strings.Repeat("b", 31), strings.Repeat("b", 32),
		"\x7f", "\x80", "\xfe", "\xfe\xff", "\xff", "\xff\x00", "\xff\xff", strings.Repeat("\xff", 31), strings.Repeat("\xff", 32),
	}
}

// edgy are pairs of the edge keys, with values of none, of one byte, of 127 and of 128, and Gone.
func edgy() []item {
	var l []item
	for i, key := range edgeKeys() {
		size := []int{0, 1, 127, 128, 0}[i%5]
		l = append(l, item{key: key, value: strings.Repeat(string([]byte{byte(i * 9)}), size), gone: i%5 == 4})
	}
	return l
}

// tables are sorted pairs of all kinds, by what they are.
func tables() map[string][]item {
	all := map[string][]item{
		"one":          {{key: "a", value: "1"}},
		"one Gone":     {{key: "a", gone: true}},
		"one of least": {{key: "\x00"}},
		"few":          {{key: "a", value: "1"}, {key: "b", gone: true}, {key: "c", value: "2"}},
		"edges":        edgy(),
		"all Gone":     {{key: "a", gone: true}, {key: "ab", gone: true}, {key: "b", gone: true}},
	}
	for _, n := range []int{1, 2, 5, 6, 10, 11, 63, 64} {
		all[fmt.Sprint(n, " heavy")] = heavy(n)
		all[fmt.Sprint(n, " light")] = light(n)
		all[fmt.Sprint(n, " mixed")] = mixed(n, 1)
	}
	return all
}

// The tests lean on it that these are sorted, and of how many bytes they are.
func TestTables(t *testing.T) {
	for what, l := range tables() {
		for i := 1; i < len(l); i++ {
			if l[i-1].key >= l[i].key {
				t.Errorf("%s: %q is not ahead of %q", what, l[i-1].key, l[i].key)
			}
		}
	}
	if len(heavy(1)[0].bytes()) != 162 || len(light(1)[0].bytes()) != 3 || len(light(3)[2].bytes()) != 3 {
		t.Error("heavy and light ones are not the heaviest and the lightest")
	}
	if x := len(packed(heavy(64))); x != 13 {
		t.Errorf("%d blocks of heavy ones", x)
	}
	for size := 690; size <= 861; size++ {
		if x := len(strings.Join(packed(filled(size)), "")); x != size {
			t.Errorf("filled to %d: %d bytes", size, x)
		}
	}
}

// reseal lays the seal of a block's bytes anew, by the library's digest.
func reseal(raw []byte) []byte {
	whole := sha256.Sum256(raw[16:])
	copy(raw[:16], whole[:16])
	return raw
}

// laid is a block's bytes by the words of chapter 10.
func laid(b api.GridBlock) []byte {
	raw := make([]byte, 1024)
	l := []int{b.Kind, b.Ref.Address, b.Ref.Stamp, len(b.Refs), len(b.Body)}
	for _, r := range b.Refs {
		l = append(l, r.Address, r.Stamp)
	}
	for i, x := range l {
		binary.LittleEndian.PutUint32(raw[16+4*i:], uint32(x))
	}
	copy(raw[164:], b.Body)
	return reseal(raw)
}

// setOf is the bytes of a set of blocks that are so, by the words of chapter 9.
func setOf(hows []int) []byte {
	b := []byte{byte(len(hows) % 256), byte(len(hows) / 256)}
	for i, how := range hows {
		if i%4 == 0 {
			b = append(b, 0)
		}
		b[len(b)-1] += byte(how << (i % 4 * 2))
	}
	return b
}

// want holds an error against that which must come.
func want(t testing.TB, what string, got, want api.Errno) {
	t.Helper()
	if got != want {
		t.Errorf("%s: %v, want %v", what, got, want)
	}
}

// ok does not go on behind an error.
func ok(t testing.TB, what string, got api.Errno) {
	t.Helper()
	if got != api.OK {
		t.Fatalf("%s: %v", what, got)
	}
}

// sameRun tells whether two tables are the same.
func sameRun(a, b api.Run) bool {
	return a.Root == b.Root && a.Count == b.Count && bytes.Equal(a.First, b.First) && bytes.Equal(a.Last, b.Last)
}

// wantPairs wants an answer to be just these pairs, or just an error.
func wantPairs(t testing.TB, what string, got []api.Pair, e api.Errno, l []item, wrong api.Errno) {
	t.Helper()
	if e != wrong || !slices.Equal(items(got), l) {
		t.Errorf("%s: %v, %v, want %v, %v", what, items(got), e, l, wrong)
	}
}

// wantGet wants Get to tell a pair.
func wantGet(t testing.TB, what string, g *grid.Grid, r api.Run, p item) {
	t.Helper()
	if got, e := table.Get(g, r, []byte(p.key)); e != api.OK || items([]api.Pair{got})[0] != p {
		t.Errorf("%s: Get(%q): %v, %v, want %v", what, p.key, items([]api.Pair{got}), e, p)
	}
}

// refuseGet wants Get to tell an error, and nothing beside it.
func refuseGet(t testing.TB, what string, g *grid.Grid, r api.Run, key string, want api.Errno) {
	t.Helper()
	if got, e := table.Get(g, r, []byte(key)); e != want || got.Key != nil || got.Value != nil || got.Gone {
		t.Errorf("%s: Get(%q): %v, %v, want %v", what, key, got, e, want)
	}
}

// wantAll wants All to tell these pairs, and Between of no keys the same.
func wantAll(t testing.TB, what string, g *grid.Grid, r api.Run, l []item) {
	t.Helper()
	got, e := table.All(g, r)
	wantPairs(t, what+": All", got, e, l, api.OK)
	wantBetween(t, what, g, r, "", "", l)
}

func refuseAll(t testing.TB, what string, g *grid.Grid, r api.Run, want api.Errno) {
	t.Helper()
	got, e := table.All(g, r)
	wantPairs(t, what+": All", got, e, nil, want)
	refuseBetween(t, what, g, r, "", "", want)
}

func wantBetween(t testing.TB, what string, g *grid.Grid, r api.Run, from, to string, l []item) {
	t.Helper()
	got, e := table.Between(g, r, []byte(from), []byte(to))
	wantPairs(t, fmt.Sprintf("%s: Between(%q, %q)", what, from, to), got, e, l, api.OK)
}

func refuseBetween(t testing.TB, what string, g *grid.Grid, r api.Run, from, to string, want api.Errno) {
	t.Helper()
	got, e := table.Between(g, r, []byte(from), []byte(to))
	wantPairs(t, fmt.Sprintf("%s: Between(%q, %q)", what, from, to), got, e, nil, want)
}

func wantBlocks(t testing.TB, what string, g *grid.Grid, r api.Run, l ...api.Ref) {
	t.Helper()
	if got, e := table.Blocks(g, r); e != api.OK || !slices.Equal(got, l) {
		t.Errorf("%s: Blocks: %v, %v, want %v", what, got, e, l)
	}
}

func refuseBlocks(t testing.TB, what string, g *grid.Grid, r api.Run, want api.Errno) {
	t.Helper()
	if got, e := table.Blocks(g, r); e != want || len(got) != 0 {
		t.Errorf("%s: Blocks: %v, %v, want %v", what, got, e, want)
	}
}

// refuseBuild wants Build to tell an error, and nothing beside it.
func refuseBuild(t testing.TB, what string, g *grid.Grid, l []api.Pair, stamp int, want api.Errno) {
	t.Helper()
	if r, e := table.Build(g, l, stamp); e != want || r.Root != (api.Ref{}) || r.Count != 0 || r.First != nil || r.Last != nil {
		t.Errorf("%s: Build: %v, %v, want %v", what, r, e, want)
	}
}

// refuseAllCalls wants each call that reads a table to tell an error.
func refuseAllCalls(t testing.TB, what string, g *grid.Grid, r api.Run, want api.Errno) {
	t.Helper()
	for _, key := range []string{"", "a", strings.Repeat("\xff", 33)} {
		refuseGet(t, what, g, r, key, want)
		refuseBetween(t, what, g, r, key, "", want)
		refuseBetween(t, what, g, r, "b", key, want)
	}
	refuseAll(t, what, g, r, want)
	refuseBlocks(t, what, g, r, want)
	if e := table.Drop(g, r); e != want {
		t.Errorf("%s: Drop: %v, want %v", what, e, want)
	}
}

// The chapter's examples.
func TestExamples(t *testing.T) {
	s := begin(t, 8)
	abc := []item{{key: "a", value: "1"}, {key: "b", gone: true}, {key: "c", value: "2"}}
	r, e := table.Build(s.g, pairs(abc), 5)
	if e != api.OK || !sameRun(r, api.Run{Root: ref(2, 5), Count: 3, First: []byte("a"), Last: []byte("c")}) {
		t.Fatalf("Build: %v, %v", r, e)
	}
	wantGet(t, "built", s.g, r, abc[0])
	wantGet(t, "built", s.g, r, abc[1])
	refuseGet(t, "built", s.g, r, "d", api.ErrMissing)
	wantAll(t, "built", s.g, r, abc)
	wantBetween(t, "built", s.g, r, "b", "c", abc[1:2])
	wantBlocks(t, "built", s.g, r, ref(2, 5), ref(1, 5))
	want(t, "Drop", table.Drop(s.g, r), api.OK)
	want(t, "Drop again", table.Drop(s.g, r), api.ErrState)
	ok(t, "Turn", s.d.Turn(placeOf(1), 170, 1))
	refuseGet(t, "turned", s.g, r, "a", api.ErrFaulty)
	refuseBuild(t, "none", s.g, nil, 5, api.ErrArg)
	refuseBuild(t, "b a", s.g, pairs([]item{{key: "b"}, {key: "a"}}), 5, api.ErrArg)
	refuseBuild(t, "64 heavy ones", s.g, pairs(heavy(64)), 5, api.ErrFull)
}

// scene is a grid and its disk, and what the grid must be: how its blocks are, and which refs are wanted.
type scene struct {
	d      *disk.Disk
	g      *grid.Grid
	hows   []int
	wanted []api.Ref
}

// begin is a scene of so many free blocks.
func begin(t testing.TB, blocks int) *scene {
	t.Helper()
	return beginAs(t, make([]int, blocks))
}

// beginAs is a scene whose blocks are so.
func beginAs(t testing.TB, hows []int) *scene {
	t.Helper()
	d, e := disk.New(104 + 4*len(hows))
	ok(t, "disk.New", e)
	s := &scene{d: d, hows: slices.Clone(hows)}
	s.reopen(t)
	return s
}

// reopen opens the grid anew.
func (s *scene) reopen(t testing.TB) {
	t.Helper()
	var e api.Errno
	s.g, e = grid.Open(s.d, len(s.hows), setOf(s.hows))
	ok(t, "grid.Open", e)
	s.wanted = nil
}

// built builds a table that must come to be, and notes which blocks are taken then.
func (s *scene) built(t testing.TB, l []item, stamp int) api.Run {
	t.Helper()
	r, e := table.Build(s.g, pairs(l), stamp)
	ok(t, "Build", e)
	for range len(packed(l)) + 1 {
		s.hows[slices.Index(s.hows, free)] = taken
	}
	return r
}

// lay writes a block to its place on the disk, behind the grid's back; it is taken then.
func (s *scene) lay(t testing.TB, b api.GridBlock) {
	t.Helper()
	ok(t, "disk.Write", s.d.Write(placeOf(b.Ref.Address), laid(b)))
	s.hows[b.Ref.Address-1] = taken
	ok(t, "Reset", s.g.Reset(setOf(s.hows)))
}

// turn turns a byte of a block.
func (s *scene) turn(t testing.TB, address, at int, mask byte) {
	t.Helper()
	ok(t, "Turn", s.d.Turn(placeOf(address)+at/256, at%256, mask))
}

// blow lets the disk go out.
func (s *scene) blow(t testing.TB) {
	t.Helper()
	ok(t, "Fuse", disk.Fuse([]*disk.Disk{s.d}, 0))
	want(t, "Flush at a fuse of none", s.d.Flush(), api.ErrBroken)
}

// check wants the grid to be as it must be.
func (s *scene) check(t testing.TB, what string) {
	t.Helper()
	if b := s.g.Free(); !bytes.Equal(b, setOf(s.hows)) {
		t.Errorf("%s: the grid's set is %v, want %v", what, b, setOf(s.hows))
	}
	if l := s.g.Wanted(); !slices.Equal(l, s.wanted) {
		t.Errorf("%s: wanted are %v, want %v", what, l, s.wanted)
	}
}

// seen is all that can be told of a disk but its fuse, told by a clone.
type seen struct {
	ops int
	up  bool
	now string
}

func (s *scene) look(t testing.TB) seen {
	t.Helper()
	c := s.d.Clone()
	ok(t, "Crash", c.Crash(slices.Repeat([]bool{true}, c.Sectors()), -1))
	b, e := c.Read(0, c.Sectors())
	ok(t, "disk.Read", e)
	return seen{s.d.Ops(), s.d.Up(), string(b)}
}

// unchanged wants the disk to be as it was, and the grid as it must be.
func (s *scene) unchanged(t testing.TB, what string, was seen) {
	t.Helper()
	if s.look(t) != was {
		t.Errorf("%s: the disk has changed", what)
	}
	s.check(t, what)
}
