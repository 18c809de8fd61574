package level_test

import (
	"fmt"
	"slices"
	"strconv"
	"strings"
	"testing"

	"exchequer/api"
	"exchequer/disk"
	"exchequer/grid"
	"exchequer/level"
	"exchequer/table"
)

// most is the greatest that a stamp may be.
const most = 1 << 30

// tab is a table that can be held against another one.
type tab struct {
	root        api.Ref
	count       int
	first, last string
}

func (x tab) String() string {
	return fmt.Sprintf("%d.%d:%d %.40q-%.40q", x.root.Address, x.root.Stamp, x.count, x.first, x.last)
}

func (x tab) run() api.Run {
	return api.Run{Root: x.root, Count: x.count, First: []byte(x.first), Last: []byte(x.last)}
}

func tabOf(r api.Run) tab { return tab{r.Root, r.Count, string(r.First), string(r.Last)} }

func runs(l []tab) []api.Run {
	var all []api.Run
	for _, x := range l {
		all = append(all, x.run())
	}
	return all
}

func tabs(l []api.Run) []tab {
	var all []tab
	for _, r := range l {
		all = append(all, tabOf(r))
	}
	return all
}

func allRuns(l [][]tab) [][]api.Run {
	var all [][]api.Run
	for _, one := range l {
		all = append(all, runs(one))
	}
	return all
}

func allTabs(l [][]api.Run) [][]tab {
	var all [][]tab
	for _, one := range l {
		all = append(all, tabs(one))
	}
	return all
}

// tables takes tables from a text: of each a number, which is its Root's Address, and two letters, its First and its Last; parted by blanks.
func tables(text string) []tab {
	var l []tab
	for _, word := range strings.Fields(text) {
		end := len(word) - 2
		address, e := strconv.Atoi(word[:end])
		if e != nil {
			panic(word)
		}
		l = append(l, tab{root: api.Ref{Address: address}, count: 2, first: word[end : end+1], last: word[end+1:]})
	}
	return l
}

// levels takes levels from a text: tables, parted by semicolons.
func levels(text string) [][]tab {
	var l [][]tab
	for _, one := range strings.Split(text, ";") {
		l = append(l, tables(one))
	}
	return l
}

// row are so many tables, one behind the other with gaps between them, each of a few keys, with Addresses from one on.
func row(n, address int) []tab {
	var l []tab
	for i := range n {
		l = append(l, tab{root: api.Ref{Address: address + i}, count: 3, first: fmt.Sprintf("%05d", 10*i), last: fmt.Sprintf("%05d", 10*i+6)})
	}
	return l
}

// item is a pair that can be held against another one.
type item struct {
	key, value string
	gone       bool
}

func (p item) String() string {
	if p.gone {
		return fmt.Sprintf("%.40q gone %q", p.key, p.value)
	}
	return fmt.Sprintf("%.40q %.10q", p.key, p.value)
}

// said takes items from a text: a key of one letter, and its value, or - for one that is Gone; parted by blanks.
func said(text string) []item {
	var l []item
	for _, word := range strings.Fields(text) {
		p := item{key: word[:1], value: word[1:]}
		if p.value == "-" {
			p.value, p.gone = "", true
		}
		l = append(l, p)
	}
	return l
}

func pairs(l []item) []api.Pair {
	var all []api.Pair
	for _, p := range l {
		all = append(all, api.Pair{Key: []byte(p.key), Value: []byte(p.value), Gone: p.gone})
	}
	return all
}

func items(l []api.Pair) []item {
	var all []item
	for _, p := range l {
		all = append(all, item{string(p.Key), string(p.Value), p.Gone})
	}
	return all
}

// heavy are so many pairs of 162 bytes each, five of which stand in a block; every fourth key from one on.
func heavy(n, from int, value string) []item {
	var l []item
	for i := range n {
		l = append(l, item{key: fmt.Sprintf("%032d", 4*i+from), value: strings.Repeat(value, 128)})
	}
	return l
}

// numbered are so many pairs of few bytes, each so many keys behind the one ahead.
func numbered(n, from, apart int, value string) []item {
	var l []item
	for i := range n {
		l = append(l, item{key: fmt.Sprintf("%05d", from+i*apart), value: value})
	}
	return l
}

// scene is a grid and its disk.
type scene struct {
	d      *disk.Disk
	g      *grid.Grid
	blocks int
}

// begin is a scene of so many free blocks.
func begin(t testing.TB, blocks int) *scene {
	t.Helper()
	d, e := disk.New(104 + 4*blocks)
	ok(t, "disk.New", e)
	g, e := grid.New(d, blocks)
	ok(t, "grid.New", e)
	return &scene{d, g, blocks}
}

// clone is a scene of its own that is the same, but that its disk has no fuse, and nothing is wanted.
func (s *scene) clone(t testing.TB) *scene {
	t.Helper()
	d := s.d.Clone()
	if !s.d.Up() {
		// A grid can't be opened on a disk that is out: so it goes out behind that.
		ok(t, "Crash", d.Crash(slices.Repeat([]bool{true}, d.Sectors()), -1))
	}
	g, e := grid.Open(d, s.blocks, s.g.Free())
	ok(t, "grid.Open", e)
	c := &scene{d, g, s.blocks}
	if !s.d.Up() {
		c.blow(t)
	}
	return c
}

// built builds a table, which must come to be.
func (s *scene) built(t testing.TB, l []item, stamp int) tab {
	t.Helper()
	r, e := table.Build(s.g, pairs(l), stamp)
	ok(t, "table.Build", e)
	return tabOf(r)
}

// stack builds tables, and makes levels of them: of each level's texts the first one's table stands first.
func (s *scene) stack(t testing.TB, all ...[]string) [][]tab {
	t.Helper()
	var l [][]tab
	for _, one := range all {
		var made []tab
		for _, text := range one {
			made = append(made, s.built(t, said(text), 1))
		}
		l = append(l, made)
	}
	return l
}

// blocksOf are the refs of a table's blocks, the index block's first.
func (s *scene) blocksOf(t testing.TB, x tab) []api.Ref {
	t.Helper()
	l, e := table.Blocks(s.g, x.run())
	ok(t, "table.Blocks", e)
	return l
}

// turn turns a byte of a block.
func (s *scene) turn(t testing.TB, ref api.Ref, at int) {
	t.Helper()
	ok(t, "Turn", s.d.Turn(104+4*(ref.Address-1)+at/256, at%256, 1))
}

// blow lets the disk go out.
func (s *scene) blow(t testing.TB) {
	t.Helper()
	ok(t, "Fuse", disk.Fuse([]*disk.Disk{s.d}, 0))
	want(t, "Flush at a fuse of none", s.d.Flush(), api.ErrBroken)
}

// fill takes blocks till just so many are free.
func (s *scene) fill(t testing.TB, free int) {
	t.Helper()
	for n, _, _ := s.g.Counts(); n > free; n-- {
		_, e := s.g.Write(9, nil, []byte("filled"), 0)
		ok(t, "grid.Write", e)
	}
}

// seen is all that can be told of a scene but its disk's fuse, told by a clone.
type seen struct {
	ops              int
	up               bool
	now, set, wanted string
}

func (s *scene) look(t testing.TB) seen {
	t.Helper()
	c := s.d.Clone()
	ok(t, "Crash", c.Crash(slices.Repeat([]bool{true}, c.Sectors()), -1))
	b, e := c.Read(0, c.Sectors())
	ok(t, "disk.Read", e)
	return seen{s.d.Ops(), s.d.Up(), string(b), string(s.g.Free()), fmt.Sprint(s.g.Wanted())}
}

// glance is what is seen without the disk's bytes: no change was made of these, if there are as many changes.
func (s *scene) glance() seen {
	return seen{s.d.Ops(), s.d.Up(), "", string(s.g.Free()), fmt.Sprint(s.g.Wanted())}
}

// unchanged wants a scene to be as it was.
func (s *scene) unchanged(t testing.TB, what string, was seen) {
	t.Helper()
	now := s.glance()
	if was.now != "" {
		now = s.look(t)
	}
	if now.set != was.set || now.wanted != was.wanted {
		t.Errorf("%s: the grid's set is %v, wanted is %s; it was %v, %s", what, []byte(now.set), now.wanted, []byte(was.set), was.wanted)
	} else if now != was {
		t.Errorf("%s: the disk has changed", what)
	}
}

// want holds an error against that which must come.
func want(t testing.TB, what string, got, want api.Errno) {
	t.Helper()
	if got != want {
		t.Errorf("%s: %v, want %v", what, got, want)
	}
}

// ok does not go on behind an error.
func ok(t testing.TB, what string, got api.Errno) {
	t.Helper()
	if got != api.OK {
		t.Fatalf("%s: %v", what, got)
	}
}

// wantLevels wants just these levels, as four, or just an error.
func wantLevels(t testing.TB, what string, got [][]api.Run, e api.Errno, l [][]tab, wrong api.Errno) {
	t.Helper()
	if wrong != api.OK {
		if e != wrong || len(got) > 0 {
			t.Errorf("%s: %v, %v, want %v", what, allTabs(got), e, wrong)
		}
		return
	}
	if e != api.OK || len(got) != 4 || fmt.Sprint(allTabs(got)) != fmt.Sprint(four(l)) {
		t.Errorf("%s: %v, %v, want %v", what, allTabs(got), e, four(l))
	}
}

func wantTables(t testing.TB, what string, got []api.Run, l []tab) {
	t.Helper()
	if !slices.Equal(tabs(got), l) {
		t.Errorf("%s: %v, want %v", what, tabs(got), l)
	}
}

func wantPair(t testing.TB, what string, got api.Pair, e api.Errno, p item, wrong api.Errno) {
	t.Helper()
	if e != wrong || items([]api.Pair{got})[0] != p {
		t.Errorf("%s: %v, %v, want %v, %v", what, items([]api.Pair{got})[0], e, p, wrong)
	}
}

func wantLists(t testing.TB, what string, got [][]api.Pair, e api.Errno, l [][]item, wrong api.Errno) {
	t.Helper()
	same := len(got) == len(l)
	for i := range min(len(got), len(l)) {
		same = same && slices.Equal(items(got[i]), l[i])
	}
	if e != wrong || !same {
		t.Errorf("%s: %d lists %v, %v, want %d, %v", what, len(got), got, e, len(l), wrong)
	}
}

// The chapter's examples.
func TestExamples(t *testing.T) {
	t1, t2, t3 := tables("1ac")[0], tables("2bd")[0], tables("3ef")[0]
	l, e := level.Add(nil, t1.run())
	wantLevels(t, "Add t1", l, e, levels("1ac"), api.OK)
	l, e = level.Add(l, t2.run())
	wantLevels(t, "Add t2", l, e, levels("2bd 1ac"), api.OK)
	wantTables(t, "Spans c", level.Spans(l, []byte("c"), nil), []tab{t2, t1})
	wantTables(t, "Spans d e", level.Spans(l, []byte("d"), []byte("e")), []tab{t2})
	wantOver(t, "five", [][]tab{{t1, t1, t1, t1, t1}}, 0, true)
	wantOver(t, "four", [][]tab{{t1, t1, t1, t1}}, 0, false)
	x := [][]tab{{t2, t1}, {t3}}
	p, e := level.Choose(allRuns(x), 0)
	if e != api.OK || fmt.Sprint(planOf(p)) != fmt.Sprint(plan{from: []tab{t2, t1}, drop: true}) {
		t.Errorf("Choose: %v, %v", planOf(p), e)
	}
	l, e = level.Replace(allRuns(x), p, runs([]tab{t2}))
	wantLevels(t, "Replace", l, e, [][]tab{nil, {t2, t3}}, api.OK)
	refuseChoose(t, "the last level", l, 3)
	want(t, "Check t3 t1", level.Check(allRuns([][]tab{nil, {t3, t1}})), api.ErrArg)
	t1.count = 0
	want(t, "Check Count 0", level.Check(allRuns([][]tab{{t1}})), api.ErrArg)
}
