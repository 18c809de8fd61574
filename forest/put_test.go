package forest_test

import (
	"fmt"
	"slices"
	"strings"
	"testing"

	"exchequer/api"
	"exchequer/forest"
)

// P16.1: a new forest has no pairs, and is on that very grid, which stays as it was: free or full, up or out.
func TestNew(t *testing.T) {
	s := begin(t, 40)
	s.write(t, 9, nil, "taken", 3)
	ref := s.write(t, 9, nil, "let go", 3)
	ok(t, "Release", s.g.Release(ref))
	was, ops := s.g.Free(), s.d.Ops()
	f := planted(t, s)
	wantSizes(t, "new", f, nil)
	for tree := range 6 {
		wantScan(t, "new", f, tree, "", "", 1000, nil, api.OK)
		wantGet(t, "new", f, tree, "a", "", api.ErrMissing)
	}
	if !slices.Equal(s.g.Free(), was) || s.d.Ops() != ops {
		t.Error("the grid has changed")
	}
	lay(t, f, 0, said("a1"))
	wantCheckpoint(t, "on that grid", f, 8, "", api.Ref{Address: 7, Stamp: 8}, api.OK)
	b, e := s.g.Read(api.Ref{Address: 7, Stamp: 8})
	if e != api.OK || b.Kind != api.KindRoot {
		t.Errorf("its root: %v, %v", b, e)
	}
	s.fill(t, 0)
	wantSizes(t, "on a full grid", planted(t, s), nil)
	s.blow(t)
	f = planted(t, s)
	wantSizes(t, "on a grid that is out", f, nil)
	lay(t, f, 0, said("a1"))
	wantGet(t, "on a grid that is out", f, 0, "a", "1", api.OK)
	wantGet(t, "on a grid that is out", f, 0, "b", "", api.ErrMissing)
}

// P16.1: Sizes tells of each tree, in order, the pairs in memory, with those that are Gone, and each level's tables.
func TestSizes(t *testing.T) {
	x := twins(t, 300)
	for tree := range 6 {
		x.lay(t, tree, numbered(tree+1, 0, "v"))
	}
	wantSizes(t, "in memory", x.f, map[int][5]int{0: {1}, 1: {2}, 2: {3}, 3: {4}, 4: {5}, 5: {6}})
	x.lay(t, 3, []item{{key: "00000", gone: true}, {key: "b", gone: true}, {key: "00001", value: "again"}})
	wantSizes(t, "with marks", x.f, map[int][5]int{0: {1}, 1: {2}, 2: {3}, 3: {5}, 4: {5}, 5: {6}})
	x.checkpoint(t, "the first", 8, "")
	wantSizes(t, "written out", x.f, map[int][5]int{0: {0, 1}, 1: {0, 1}, 2: {0, 1}, 3: {0, 1}, 4: {0, 1}, 5: {0, 1}})
	for i := range 4 {
		x.lay(t, 4, numbered(2, 10*i, "w"))
		x.lay(t, 1, numbered(2, 10*i, "w"))
		x.checkpoint(t, "another one", 16+8*i, "")
		x.tick(t, "one more", 17+8*i)
	}
	x.lay(t, 0, said("a1"))
	wantSizes(t, "stepped", x.f, map[int][5]int{0: {1, 1}, 1: {0, 0, 1}, 2: {0, 1}, 3: {0, 1}, 4: {0, 0, 1}, 5: {0, 1}})
	l := x.f.Sizes()
	clear(l)
	wantSizes(t, "what was told is cleared", x.f, map[int][5]int{0: {1, 1}, 1: {0, 0, 1}, 2: {0, 1}, 3: {0, 1}, 4: {0, 0, 1}, 5: {0, 1}})
}

// P16.2: a tree that is not from 0 to 5 is ErrArg, ahead of what is wrong with keys and numbers; nothing changes with it.
func TestTreesThatAreNot(t *testing.T) {
	s := begin(t, 40)
	f := planted(t, s)
	for _, tree := range []int{0, 5} {
		lay(t, f, tree, said("a1"))
		wantGet(t, "a tree that is", f, tree, "a", "1", api.OK)
		wantScan(t, "a tree that is", f, tree, "", "", 1, said("a1"), api.OK)
	}
	s.blow(t)
	for _, tree := range []int{-1, 6, 7, -6, 1 << 40, -1 << 63, 1<<63 - 1} {
		for _, key := range []string{"a", "", strings.Repeat("k", 33)} {
			want(t, "Put", f.Put(tree, []byte(key), nil), api.ErrArg)
			want(t, "Put of too much", f.Put(tree, []byte(key), make([]byte, 129)), api.ErrArg)
			want(t, "Remove", f.Remove(tree, []byte(key)), api.ErrArg)
			wantGet(t, "a tree that is not", f, tree, key, "", api.ErrArg)
			for _, n := range []int{0, 1, 1000, 1001} {
				wantScan(t, "a tree that is not", f, tree, key, "", n, nil, api.ErrArg)
			}
		}
	}
	wantSizes(t, "behind all that", f, map[int][5]int{0: {1}, 5: {1}})
}

// P16.2: Put and Remove tell memtable's errors; what they lay is told by Get, each tree's by itself.
func TestPutAndRemove(t *testing.T) {
	x := twins(t, 200)
	key, value := strings.Repeat("k", 32), strings.Repeat("v", 128)
	for tree := range 6 {
		x.lay(t, tree, []item{{"", "1", false}, {key + "k", "1", false}, {"a", value + "v", false}, {"", "", true}, {key + "k", "", true}})
		x.asked(t, "nothing laid", tree, "", "a", key)
		x.lay(t, tree, []item{{key, value, false}, {"a", fmt.Sprint(tree), false}, {"b", "", false}, {"c", "1", false}, {"c", "", true}, {"\x00", "0", false}, {"\xff", "ff", false}})
	}
	for tree := range 6 {
		x.asked(t, "laid", tree, "\x00", "a", "b", "c", "d", key, "\xff")
		wantGet(t, "laid", x.f, tree, "a", fmt.Sprint(tree), api.OK)
		wantGet(t, "an empty value", x.f, tree, "b", "", api.OK)
		wantGet(t, "a mark", x.f, tree, "c", "", api.ErrMissing)
		wantGet(t, "nothing", x.f, tree, "d", "", api.ErrMissing)
		wantGet(t, "no key", x.f, tree, "", "", api.ErrMissing)
		wantGet(t, "too long", x.f, tree, key+"k", "", api.ErrMissing)
	}
	x.goOn(t, "behind all that", 8)
}

// P16.2: ErrFull, where 64 pairs are in memory, and none of that key; marks count, too.
func TestFullInMemory(t *testing.T) {
	x := twins(t, 100)
	x.lay(t, 2, numbered(63, 0, "v"))
	x.lay(t, 2, []item{{key: "z", gone: true}})
	want(t, "a 65th pair", x.f.Put(2, []byte("a"), nil), api.ErrFull)
	want(t, "a 65th mark", x.f.Remove(2, []byte("a")), api.ErrFull)
	want(t, "no pair", x.f.Put(2, nil, nil), api.ErrArg)
	x.lay(t, 2, []item{{"z", "again", false}, {"00007", "again", false}, {"00008", "", true}, {"a", "1", false}, {"a", "", true}})
	x.lay(t, 3, said("a1"))
	wantSizes(t, "full", x.f, map[int][5]int{2: {64}, 3: {1}})
	x.asked(t, "full", 2, "00007", "00008", "a", "z")
	x.tick(t, "written out", 1)
	x.lay(t, 2, said("a1 b-"))
	x.asked(t, "written out", 2, "00007", "00008", "a", "b", "z")
	x.goOn(t, "behind all that", 8)
}

// P16.2: what is in memory hides what levels have; what is in levels is told where memory has no pair, and marks there hide what is behind them.
func TestGet(t *testing.T) {
	x := twins(t, 300)
	x.lay(t, 1, said("a1 b1 c1 d1 e1 f1"))
	x.checkpoint(t, "the oldest", 1, "")
	x.lay(t, 1, said("b2 c- d2 g2"))
	x.checkpoint(t, "a newer one", 2, "")
	x.lay(t, 1, said("d- e3 h-"))
	keys := strings.Split("0 a b c d e f g h i", " ")
	for what, at := range map[string]int{"in memory over levels": 0, "all in levels": 3} {
		if at > 0 {
			x.checkpoint(t, what, at, "")
		}
		for i, value := range strings.Split("- 1 2 - - 3 1 2 - -", " ") {
			wrong := api.OK
			if value == "-" {
				value, wrong = "", api.ErrMissing
			}
			wantGet(t, what, x.f, 1, keys[i], value, wrong)
		}
		x.asked(t, what, 1, keys...)
		x.asked(t, what+", another tree", 0, keys...)
		wantScan(t, what, x.f, 1, "", "", 1000, said("a1 b2 e3 f1 g2"), api.OK)
	}
}

// P16.2: level's errors, where the table in memory has no pair of the key: a block that is faulty, which is wanted then; a disk that is out.
func TestGetOfFaultyTables(t *testing.T) {
	s := begin(t, 60)
	f := planted(t, s)
	lay(t, f, 1, said("a1 c1"))
	lay(t, f, 2, said("a2"))
	_, e := f.Checkpoint(8, nil)
	ok(t, "Checkpoint", e)
	lay(t, f, 1, said("a- d4"))
	s.turn(t, api.Ref{Address: 1, Stamp: 8}, 500)
	wantGet(t, "a mark in memory", f, 1, "a", "", api.ErrMissing)
	wantGet(t, "a pair in memory", f, 1, "d", "4", api.OK)
	wantGet(t, "beyond the table", f, 1, "e", "", api.ErrMissing)
	s.wantWanted(t, "nothing was asked for")
	wantGet(t, "in the table", f, 1, "c", "", api.ErrFaulty)
	wantGet(t, "in the table", f, 1, "b", "", api.ErrFaulty)
	wantScan(t, "in the table", f, 1, "c", "", 5, nil, api.ErrFaulty)
	wantScan(t, "another tree", f, 2, "", "", 5, said("a2"), api.OK)
	wantScan(t, "ahead of the table", f, 1, "", "a", 5, nil, api.OK)
	wantScan(t, "beyond the table", f, 1, "d", "", 5, said("d4"), api.OK)
	s.wantWanted(t, "the data block", api.Ref{Address: 1, Stamp: 8})
	s.turn(t, api.Ref{Address: 1, Stamp: 8}, 500)
	wantGet(t, "turned back", f, 1, "c", "1", api.OK)
	s.blow(t)
	wantGet(t, "out, in the table", f, 1, "c", "", api.ErrBroken)
	wantGet(t, "out, in memory", f, 1, "d", "4", api.OK)
	wantGet(t, "out, in memory", f, 1, "a", "", api.ErrMissing)
	wantScan(t, "out", f, 1, "", "", 5, nil, api.ErrBroken)
	wantScan(t, "out, in memory alone", f, 1, "d", "", 5, said("d4"), api.OK)
	lay(t, f, 1, said("e5"))
	want(t, "Tick, out, with no table to be merged", f.Tick(9), api.OK)
}

// P16.2: most is from 1 to 1,000, which is looked at ahead of all tables; of more pairs the first are told.
func TestMostOfScan(t *testing.T) {
	x := twins(t, 400)
	for i := range 20 {
		x.lay(t, 1, numbered(64, 60*i, fmt.Sprint(i)))
		x.checkpoint(t, "so many pairs", 1+i, "")
	}
	x.lay(t, 1, numbered(64, 1200, "memory"))
	all, e := x.p.scan(1, "", "", 1000)
	if e != api.OK || len(all) != 1000 {
		t.Fatalf("%d pairs, %v", len(all), e)
	}
	for _, n := range []int{1, 2, 63, 64, 999, 1000} {
		wantScan(t, "a part", x.f, 1, "", "", n, all[:n], api.OK)
		wantScan(t, "none", x.f, 0, "", "", n, nil, api.OK)
	}
	for i, from := range []string{"", "00003", "00300", "01150", "01263", "01264"} {
		for _, to := range []string{"", "00003", "00301", "01200", "01201", "01264"} {
			for _, n := range []int{1, 40, 1000} {
				l, e := x.p.scan(1, from, to, n)
				wantScan(t, fmt.Sprint("a span ", i), x.f, 1, from, to, n, l, e)
			}
		}
	}
	s := x.scene
	for i, how := range hows(s.g.Free()) {
		if i > 0 && how == 1 {
			s.turn(t, api.Ref{Address: i}, 500)
		}
	}
	for _, n := range []int{0, 1001, -1, -1 << 63, 1<<63 - 1} {
		wantScan(t, "a number that may not be", x.f, 1, "", "", n, nil, api.ErrArg)
		wantScan(t, "a number that may not be, of no pairs", x.f, 0, "", "", n, nil, api.ErrArg)
	}
	s.wantWanted(t, "nothing was asked for")
	wantScan(t, "turned", x.f, 1, "", "", 1, nil, api.ErrFaulty)
}

// P16.2: marks in memory hide what levels have, marks in levels what is behind them, and none is told; most counts what is told alone.
func TestMarksInScan(t *testing.T) {
	x := twins(t, 200)
	x.lay(t, 4, said("a1 b1 c1 d1 e1 f1 g1"))
	x.checkpoint(t, "the oldest", 1, "")
	x.lay(t, 4, said("b- c2 f-"))
	x.checkpoint(t, "a newer one", 2, "")
	x.lay(t, 4, said("a- c- d3 z- 0-"))
	for _, c := range []struct {
		from, to string
		n        int
		l        string
	}{
		{"", "", 1000, "d3 e1 g1"}, {"", "", 1, "d3"}, {"", "", 2, "d3 e1"}, {"", "", 3, "d3 e1 g1"}, {"a", "e", 5, "d3"}, {"a", "d", 5, ""},
		{"e", "", 5, "e1 g1"}, {"e", "f", 5, "e1"}, {"f", "g", 5, ""}, {"f", "g\x00", 5, "g1"}, {"d", "d", 5, ""}, {"e", "d", 5, ""}, {"z", "", 5, ""}, {"d\x00", "", 1, "e1"},
	} {
		wantScan(t, "marks", x.f, 4, c.from, c.to, c.n, said(c.l), api.OK)
	}
	x.asked(t, "marks", 4, "0", "a", "c", "d", "f", "z")
	x.lay(t, 4, said("d- e- g-"))
	wantScan(t, "all marks", x.f, 4, "", "", 1000, nil, api.OK)
	x.goOn(t, "marks", 8)
}

// P16.2: merge's errors: more than 32 lists (that of the table in memory is one), or more than 4,096 pairs.
func TestScanOfTooMuch(t *testing.T) {
	x := twins(t, 400)
	for i := range 33 {
		x.asked(t, fmt.Sprint(i, " tables"), 1, "a", "b")
		wrong := api.OK
		if i > 31 {
			wrong = api.ErrLong
		}
		if _, e := x.f.Scan(1, nil, nil, 1); e != wrong {
			t.Errorf("%d tables: %v, want %v", i, e, wrong)
		}
		x.lay(t, 1, said("a1 c2"))
		x.checkpoint(t, "one more", 1+i, "")
	}
	wantGet(t, "33 tables", x.f, 1, "a", "1", api.OK)
	want(t, "Tick of too much", x.f.Tick(40), api.ErrLong)
	x.tick(t, "too much", 40)
	x.goOn(t, "too much", 41)
	// A manifest may say one table many times: here one with more pairs than Build writes.
	s := begin(t, 60)
	body := ""
	for i := range 255 {
		body += string([]byte{1, byte(i), 255})
	}
	for i := range 23 {
		body += string([]byte{2, 255, byte(i), 255})
	}
	data := s.write(t, api.KindData, nil, body, 1)
	index := s.write(t, api.KindIndex, []api.Ref{data}, "\x01\x00", 1)
	for n, wrong := range map[int]api.Errno{14: api.OK, 15: api.ErrLong} {
		c := s.clone(t)
		r := recipe{manifest: []piece{{kind: api.KindManifest}}}
		for range n {
			r.manifest[0].refs = append(r.manifest[0].refs, index)
			r.manifest[0].body += "\x01\x00\x01\x01\x00\x02\xff\x16"
		}
		f := c.opened(t, c.cook(t, r, 5), "")
		if l, e := f.Scan(1, nil, nil, 1000); e != wrong || len(l) > 0 {
			t.Errorf("%d times 278 pairs: %v, %v, want %v", n, items(l), e, wrong)
		}
	}
}

// P16.2: each tree has its own pairs, in memory and in levels.
func TestTreesByThemselves(t *testing.T) {
	x := twins(t, 300)
	for round := range 8 {
		for tree := range 6 {
			l := numbered(3, 10*tree+round, fmt.Sprint(tree, ".", round))
			l[1].value, l[1].gone = "", round%3 == 0
			x.lay(t, tree, l)
		}
		if round%2 == 0 {
			x.checkpoint(t, "written out", round+1, "")
		}
		x.tick(t, "ticked", round+1)
		for tree := range 6 {
			x.asked(t, fmt.Sprint("round ", round), tree, "00000", "00011", "00022", "00033", "00054", "00060")
		}
	}
	for tree := range 6 {
		if l, e := x.f.Scan(tree, nil, nil, 1000); e != api.OK || len(l) < 5 {
			t.Errorf("the tree %d: %v, %v", tree, items(l), e)
		}
	}
}

// P16.1: two forests on one grid have nothing of one another.
func TestTwoForestsOnOneGrid(t *testing.T) {
	s := begin(t, 60)
	a, b := planted(t, s), planted(t, s)
	lay(t, a, 0, said("a1"))
	lay(t, b, 0, said("b2"))
	var roots []api.Ref
	for i, f := range []*forest.Forest{a, b} {
		root, e := f.Checkpoint(8, []byte{byte(i)})
		ok(t, "Checkpoint", e)
		roots = append(roots, root)
	}
	lay(t, a, 0, said("b-"))
	wantScan(t, "one", a, 0, "", "", 5, said("a1"), api.OK)
	wantScan(t, "the other one", b, 0, "", "", 5, said("b2"), api.OK)
	wantScan(t, "one, opened", s.anew(t).opened(t, roots[0], "\x00"), 0, "", "", 5, said("a1"), api.OK)
	wantScan(t, "the other one, opened", s.anew(t).opened(t, roots[1], "\x01"), 0, "", "", 5, said("b2"), api.OK)
}
