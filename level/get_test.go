package level_test

import (
	"fmt"
	"slices"
	"strings"
	"testing"

	"exchequer/api"
	"exchequer/level"
	"exchequer/table"
)

// wantGet wants Get to tell what it must.
func (s *scene) wantGet(t testing.TB, what string, l [][]tab, key string) {
	t.Helper()
	was := s.glance()
	got, e := level.Get(s.g, allRuns(l), []byte(key))
	now := s.glance()
	p, wrong := s.get(l, key)
	wantPair(t, fmt.Sprintf("%s: Get(%.40q)", what, key), got, e, p, wrong)
	s.unchanged(t, fmt.Sprintf("%s: Get(%.40q)", what, key), now)
	was.wanted = now.wanted
	s.unchanged(t, fmt.Sprintf("%s: Get(%.40q)", what, key), was)
}

// getIs wants Get to tell a pair, or just an error.
func (s *scene) getIs(t testing.TB, what string, l [][]tab, key string, p item, wrong api.Errno) {
	t.Helper()
	got, e := level.Get(s.g, allRuns(l), []byte(key))
	wantPair(t, fmt.Sprintf("%s: Get(%.40q)", what, key), got, e, p, wrong)
	s.wantGet(t, what, l, key)
}

// wantLists wants Lists to tell what it must.
func (s *scene) wantLists(t testing.TB, what string, l [][]tab, from, to string) {
	t.Helper()
	what = fmt.Sprintf("%s: Lists(%.40q, %.40q)", what, from, to)
	was := s.glance()
	got, e := level.Lists(s.g, allRuns(l), []byte(from), []byte(to))
	now := s.glance()
	all, wrong := s.lists(l, from, to)
	wantLists(t, what, got, e, all, wrong)
	s.unchanged(t, what, now)
	was.wanted = now.wanted
	s.unchanged(t, what, was)
}

// listsAre wants Lists to tell these lists, or just an error.
func (s *scene) listsAre(t testing.TB, what string, l [][]tab, from, to string, wrong api.Errno, all ...string) {
	t.Helper()
	got, e := level.Lists(s.g, allRuns(l), []byte(from), []byte(to))
	var lists [][]item
	for _, one := range all {
		lists = append(lists, said(one))
	}
	wantLists(t, fmt.Sprintf("%s: Lists(%.40q, %.40q)", what, from, to), got, e, lists, wrong)
	s.wantLists(t, what, l, from, to)
}

// wantedAre wants a grid to want just these refs.
func (s *scene) wantedAre(t testing.TB, what string, l ...api.Ref) {
	t.Helper()
	if got := s.g.Wanted(); fmt.Sprint(got) != fmt.Sprint(l) {
		t.Errorf("%s: wanted are %v, want %v", what, got, l)
	}
}

// P15.4: the newest table that has a key counts, whatever is behind it; a mark is an answer.
func TestGet(t *testing.T) {
	s := begin(t, 60)
	l := s.stack(t, []string{"a1 c1", "a2 b2 d- f2"}, []string{"a3 b3 c3", "d3 e3"}, nil, []string{"a4 f4 g4 x-"})
	for key, p := range map[string]item{"a": {key: "a", value: "1"}, "b": {key: "b", value: "2"}, "c": {key: "c", value: "1"}, "d": {key: "d", gone: true},
		"e": {key: "e", value: "3"}, "f": {key: "f", value: "2"}, "g": {key: "g", value: "4"}, "x": {key: "x", gone: true}} {
		s.getIs(t, "a stack", l, key, p, api.OK)
	}
	for _, key := range []string{"", "\x00", "A", "aa", "b\x00", "dd", "h", "w", "x\x00", "y", "\xff", strings.Repeat("a", 33), strings.Repeat("b", 33), strings.Repeat("x", 4000)} {
		s.getIs(t, "a stack", l, key, item{}, api.ErrMissing)
	}
	s.getIs(t, "no levels", nil, "a", item{}, api.ErrMissing)
	s.getIs(t, "levels without tables", make([][]tab, 4), "a", item{}, api.ErrMissing)
	s.getIs(t, "a newer mark", [][]tab{l[3], l[0][:1]}, "x", item{key: "x", gone: true}, api.OK)
	s.getIs(t, "the other way about", [][]tab{{l[0][1], l[0][0]}}, "a", item{key: "a", value: "2"}, api.OK)
	p, e := level.Get(s.g, allRuns(l), nil)
	wantPair(t, "nil", p, e, item{}, api.ErrMissing)
	s.wantedAre(t, "all is there")
}

// P15.4: of a newer table whose block is faulty the error is told, though an older one has the key; of an older one it is not asked for.
func TestGetOfFaultyTables(t *testing.T) {
	// Of each key which tables are asked, up to that which has it, and the pair.
	asked := map[string][]int{"b1": {0}, "c2": {0, 1}, "d3": {0, 2}, "e-": {0, 3}, "z4": {4}}
	for at := range 5 {
		for part := range 2 {
			s := begin(t, 60)
			l := s.stack(t, []string{"a1 b1 m1", "a2 b2 c2"}, []string{"a3 c3 d3", "e- f3"}, nil, []string{"a4 d4 e4 z4"})
			bad := slices.Concat(l...)[at]
			refs := s.blocksOf(t, bad)
			s.turn(t, refs[part], 500)
			for text, which := range asked {
				p := said(text)[0]
				if slices.Contains(which, at) {
					s.getIs(t, fmt.Sprint("the table ", at, " is turned"), l, p.key, item{}, api.ErrFaulty)
				} else {
					s.getIs(t, fmt.Sprint("the table ", at, " is turned"), l, p.key, p, api.OK)
				}
			}
			s.wantedAre(t, "turned", refs[part])
			s.turn(t, refs[part], 500)
			for text := range asked {
				s.getIs(t, "turned back", l, text[:1], said(text)[0], api.OK)
			}
		}
	}
	s := begin(t, 60)
	l := s.stack(t, []string{"a1 c1", "a2 c2"}, []string{"a3 b3 c3"})
	s.turn(t, s.blocksOf(t, l[0][1])[1], 500)
	s.turn(t, s.blocksOf(t, l[1][0])[1], 500)
	s.getIs(t, "two older ones are turned", l, "a", item{key: "a", value: "1"}, api.OK)
	s.wantedAre(t, "two older ones are turned")
	s.getIs(t, "the key is not in the newest one", l, "b", item{}, api.ErrFaulty)
	s.wantedAre(t, "the first of these is asked for", s.blocksOf(t, l[0][1])[1])
}

// P15.4: which tables are asked is told by First and Last alone, and each is asked by its Root.
func TestGetByFirstAndLast(t *testing.T) {
	s := begin(t, 60)
	l := s.stack(t, []string{"c1 e1 g1"}, []string{"a2 c2 e2 g2 i2"})
	narrow := [][]tab{{l[0][0]}, l[1]}
	narrow[0][0].first, narrow[0][0].last = "d", "f"
	s.getIs(t, "below First", narrow, "c", item{key: "c", value: "2"}, api.OK)
	s.getIs(t, "between", narrow, "e", item{key: "e", value: "1"}, api.OK)
	s.getIs(t, "above Last", narrow, "g", item{key: "g", value: "2"}, api.OK)
	narrow[0][0].first, narrow[0][0].last = "e", "e"
	s.getIs(t, "First and Last", narrow, "e", item{key: "e", value: "1"}, api.OK)
	wide := [][]tab{{{l[0][0].root, 9, "\x00", "\xff"}}}
	s.getIs(t, "wide", wide, "b", item{}, api.ErrMissing)
	s.getIs(t, "wide", wide, "z", item{}, api.ErrMissing)
	// A Root that is not of the grid is told to be none where its table is asked, and only there.
	for _, root := range []api.Ref{{}, {Address: 61, Stamp: 1}, {Address: 1, Stamp: -1}, {Address: 1, Stamp: most + 1}} {
		strange := [][]tab{{{root, 1, "c", "d"}}, l[1]}
		s.getIs(t, "a strange Root", strange, "c", item{}, api.ErrArg)
		s.getIs(t, "a strange Root", strange, "e", item{key: "e", value: "2"}, api.OK)
		s.listsAre(t, "a strange Root", strange, "d", "", api.ErrArg)
		s.listsAre(t, "a strange Root", strange, "e", "f", api.OK, "e2")
	}
	s.wantedAre(t, "no ref of the grid is missing")
	missing := [][]tab{{{api.Ref{Address: 50, Stamp: 1}, 1, "c", "d"}}, l[1]}
	s.getIs(t, "a Root that is not there", missing, "c", item{}, api.ErrFaulty)
	s.wantedAre(t, "a Root that is not there", api.Ref{Address: 50, Stamp: 1})
}

// P15.4: the order of errors: no grid, levels that may not be, what a table tells.
func TestOrderOfErrorsOfGetAndLists(t *testing.T) {
	s := begin(t, 60)
	l := s.stack(t, []string{"a1 c1"})
	bad := levels("1ac; 2df 3ac")
	bad[0] = l[0]
	s.turn(t, s.blocksOf(t, l[0][0])[0], 500)
	s.getIs(t, "faulty, and not such as may be", bad, "a", item{}, api.ErrArg)
	s.listsAre(t, "faulty, and not such as may be", bad, "a", "", api.ErrArg)
	s.wantedAre(t, "nothing was asked for")
	s.getIs(t, "faulty", l, "a", item{}, api.ErrFaulty)
	s.listsAre(t, "faulty", l, "a", "", api.ErrFaulty)
	s.blow(t)
	s.getIs(t, "the disk is out, and not such as may be", bad, "a", item{}, api.ErrArg)
	s.listsAre(t, "the disk is out, and not such as may be", bad, "a", "", api.ErrArg)
	s.getIs(t, "the disk is out", l, "a", item{}, api.ErrBroken)
	s.listsAre(t, "the disk is out", l, "a", "", api.ErrBroken)
	s.getIs(t, "the disk is out, and nothing is asked of it", l, "x", item{}, api.ErrMissing)
	s.listsAre(t, "the disk is out, and nothing is asked of it", l, "x", "", api.OK)
	for what, g := range noGrids(t, s) {
		p, e := level.Get(g, allRuns(bad), []byte("a"))
		wantPair(t, what, p, e, item{}, api.ErrNil)
		all, e := level.Lists(g, allRuns(bad), nil, nil)
		wantLists(t, what, all, e, nil, api.ErrNil)
	}
}

// P15.4: of each table that Spans tells a list, in that order, one without pairs too.
func TestLists(t *testing.T) {
	s := begin(t, 60)
	l := s.stack(t, []string{"a1 c- e1", "b2 d2"}, []string{"a3 b3", "d3 e3 h3"}, nil, []string{"a4 z4"})
	s.listsAre(t, "all", l, "", "", api.OK, "a1 c- e1", "b2 d2", "a3 b3", "d3 e3 h3", "a4 z4")
	s.listsAre(t, "from", l, "d", "", api.OK, "e1", "d2", "d3 e3 h3", "z4")
	s.listsAre(t, "to", l, "", "b", api.OK, "a1", "a3", "a4")
	s.listsAre(t, "between", l, "b", "d", api.OK, "c-", "b2", "b3", "")
	s.listsAre(t, "where one table alone may have some", l, "f", "g", api.OK, "", "")
	s.listsAre(t, "behind all but one", l, "i", "", api.OK, "z4")
	s.listsAre(t, "behind all", l, "zz", "", api.OK)
	s.listsAre(t, "ahead of all", l, "", "a", api.OK)
	s.listsAre(t, "none", l, "c", "c", api.OK)
	s.listsAre(t, "the other way about", l, "d", "b", api.OK)
	s.listsAre(t, "no levels", nil, "", "", api.OK)
	s.listsAre(t, "the other way about", [][]tab{{l[0][1], l[0][0]}}, "", "", api.OK, "b2 d2", "a1 c- e1")
	s.listsAre(t, "the same one twice", [][]tab{{l[0][1], l[0][1]}}, "", "c", api.OK, "b2", "b2")
	got, e := level.Lists(s.g, allRuns(l), nil, nil)
	wantLists(t, "nil", got, e, [][]item{said("a1 c- e1"), said("b2 d2"), said("a3 b3"), said("d3 e3 h3"), said("a4 z4")}, api.OK)
	narrow := s.stack(t, []string{"a1 c1 e1 g1"})
	narrow[0][0].first, narrow[0][0].last = "c", "e"
	s.listsAre(t, "what is in a table counts, where it is asked", narrow, "", "", api.OK, "a1 c1 e1 g1")
	s.listsAre(t, "it is not asked", narrow, "", "c", api.OK)
	s.listsAre(t, "nor here", narrow, "e\x00", "", api.OK)
}

// P15.4: the first error is told: of the second table, when the first one is there; those behind are not asked, nor those that span no such key, nor blocks that have none.
func TestListsOfFaultyTables(t *testing.T) {
	for at := range 5 {
		for part := range 2 {
			s := begin(t, 60)
			l := s.stack(t, []string{"c1 e1", "b2 d2"}, []string{"a3 b3", "d3 e3"}, nil, []string{"a4 z4"})
			all := []tab{l[0][0], l[0][1], l[1][0], l[1][1], l[3][0]}
			refs, later := s.blocksOf(t, all[at]), s.blocksOf(t, all[4])[1]
			s.turn(t, refs[part], 500)
			s.listsAre(t, fmt.Sprint("the table ", at, " is turned"), l, "", "", api.ErrFaulty)
			s.wantedAre(t, "one is turned", refs[part])
			s.turn(t, later, 600)
			s.listsAre(t, "and the last one", l, "", "", api.ErrFaulty)
			if at < 4 {
				s.wantedAre(t, "the last one is not asked", refs[part])
			}
			s.wantLists(t, "some", l, "e", "f")
			s.wantLists(t, "some", l, "b", "c")
			s.wantLists(t, "some", l, "x", "")
		}
	}
	s := begin(t, 60)
	x := s.built(t, heavy(16, 0, "v"), 1)
	l := [][]tab{nil, nil, {x}}
	refs := s.blocksOf(t, x) // behind the index block's four of data, of five pairs each and of one
	s.turn(t, refs[3], 900)
	keys := heavy(16, 0, "v")
	got, e := level.Lists(s.g, allRuns(l), []byte(keys[2].key), []byte(keys[9].key))
	wantLists(t, "a block that is not needed is turned", got, e, [][]item{keys[2:9]}, api.OK)
	s.wantedAre(t, "a block that is not needed is turned")
	s.listsAre(t, "it is needed", l, keys[2].key, keys[11].key, api.ErrFaulty)
	s.wantedAre(t, "it is needed", refs[3])
}

// P15.4: what is told of a table is what table tells, whatever stands there.
func TestGetAndListsOfStrangeBlocks(t *testing.T) {
	s := begin(t, 20)
	data, e := s.g.Write(api.KindData, nil, []byte("\x01c\x01x\x01d\xff"), 3)
	ok(t, "Write", e)
	second, e := s.g.Write(api.KindData, nil, []byte("\x01b\x01y"), 3)
	ok(t, "Write", e)
	root, e := s.g.Write(api.KindIndex, []api.Ref{data, second}, []byte("\x01a\x01d"), 3)
	ok(t, "Write", e)
	other := s.built(t, said("a1 b1 c1 d1"), 3)
	for _, x := range []tab{{root, 1, "a", "e"}, {data, 1, "a", "e"}, {second, 1, "b", "b"}} {
		for _, l := range [][][]tab{{{x, other}}, {{other, x}}, {{other}, {x}}, {nil, {x}, {other}}} {
			for _, key := range []string{"a", "b", "c", "d", "e"} {
				s.wantGet(t, "strange blocks", l, key)
				s.wantLists(t, "strange blocks", l, key, "")
				s.wantLists(t, "strange blocks", l, "", key)
			}
		}
	}
	if _, e := table.All(s.g, tab{root: root}.run()); e != api.OK {
		t.Errorf("the strange table is not there: %v", e)
	}
}
