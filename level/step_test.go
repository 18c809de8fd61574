package level_test

import (
	"fmt"
	"slices"
	"strings"
	"testing"

	"exchequer/api"
	"exchequer/disk"
	"exchequer/level"
	"exchequer/table"
)

// wantStep wants Step to tell and to do what it must, and tells the levels then, and whether something was merged.
func (s *scene) wantStep(t testing.TB, what string, l [][]tab, stamp int) ([][]tab, bool) {
	t.Helper()
	return s.wantStepFused(t, what, l, stamp, -1)
}

// wantStepFused does so where the disk lets so many changes by; -1: any.
func (s *scene) wantStepFused(t testing.TB, what string, l [][]tab, stamp, changes int) ([][]tab, bool) {
	t.Helper()
	c, wanted := s.clone(t), s.g.Wanted()
	if changes >= 0 {
		ok(t, "Fuse", disk.Fuse([]*disk.Disk{s.d}, changes))
		ok(t, "Fuse", disk.Fuse([]*disk.Disk{c.d}, changes))
	}
	all, is, e := c.step(t, l, stamp)
	got, was, err := level.Step(s.g, allRuns(l), stamp)
	wantLevels(t, what+": Step", got, err, all, e)
	if was != is {
		t.Errorf("%s: Step: %t, want %t", what, was, is)
	}
	now := c.look(t)
	for _, ref := range c.g.Wanted() {
		if !slices.Contains(wanted, ref) {
			wanted = append(wanted, ref)
		}
	}
	now.wanted = fmt.Sprint(wanted)
	s.unchanged(t, what+": Step", now)
	if e != api.OK {
		return l, false
	}
	return all, is
}

// stepIs wants Step to merge, and the levels then to be of these pairs: of each level's tables a text each.
func (s *scene) stepIs(t testing.TB, what string, l [][]tab, all ...[]string) [][]tab {
	t.Helper()
	next, is := s.wantStep(t, what, l, 9)
	if !is {
		t.Errorf("%s: nothing was merged", what)
	}
	for at, one := range four(next) {
		var pairs, wanted []string
		for _, x := range one {
			got, e := table.All(s.g, x.run())
			ok(t, "table.All", e)
			pairs = append(pairs, fmt.Sprint(items(got)))
		}
		if at < len(all) {
			for _, text := range all[at] {
				wanted = append(wanted, fmt.Sprint(said(text)))
			}
		}
		if !slices.Equal(pairs, wanted) {
			t.Errorf("%s: in the level %d: %v, want %v", what, at, pairs, wanted)
		}
	}
	return next
}

// refuseStep wants Step to tell an error, and nothing to have changed but what is wanted.
func (s *scene) refuseStep(t testing.TB, what string, l [][]tab, stamp int, wrong api.Errno) {
	t.Helper()
	was := s.look(t)
	got, is, e := level.Step(s.g, allRuns(l), stamp)
	wantLevels(t, what+": Step", got, e, nil, wrong)
	if is {
		t.Errorf("%s: Step: true beside an error", what)
	}
	was.wanted = s.look(t).wanted
	s.unchanged(t, what, was)
	s.wantStep(t, what, l, stamp)
}

// texts are so many texts.
func texts(n int, of func(i int) string) []string {
	var l []string
	for i := range n {
		l = append(l, of(i))
	}
	return l
}

// letter is the i-th key of one byte, of 52.
func letter(i int) string {
	return string("ABCDEFGHIJKLMNOPQRSTUVWXYZabcdefghijklmnopqrstuvwxyz"[i])
}

// P15.5: where no level is over, the levels are told as they are, and nothing is written, whatever stands on the disk.
func TestStepOfNothing(t *testing.T) {
	s := begin(t, 60)
	l := s.stack(t, []string{"a1", "b1", "a2", "c1"}, []string{"a3", "b3"}, nil, []string{"a4"})
	s.turn(t, s.blocksOf(t, l[0][1])[0], 500)
	for what, l := range map[string][][]tab{
		"a stack": l, "no levels": nil, "three without tables": make([][]tab, 3),
		"full ones":               {row(4, 1), row(8, 1), row(16, 1), row(300, 1)},
		"Roots that no grid has":  {{{api.Ref{Address: -5}, 1, "a", "b"}}},
		"many in the last level":  {nil, nil, nil, row(300, 1)},
		"two, the last one there": levels("1ac; 2ac"),
	} {
		was := s.look(t)
		for _, stamp := range []int{0, 1, most - 1, most} {
			got, is, e := level.Step(s.g, allRuns(l), stamp)
			wantLevels(t, what+": Step", got, e, l, api.OK)
			if is {
				t.Errorf("%s: something was merged", what)
			}
		}
		for _, stamp := range []int{-1, most + 1, -1 << 62, 1 << 62} {
			s.refuseStep(t, what, l, stamp, api.ErrArg)
		}
		s.unchanged(t, what, was)
	}
	s.blow(t)
	if _, is := s.wantStep(t, "the disk is out", l, 5); is {
		t.Error("something was merged")
	}
}

// P15.5: the stamp stands in each block that is written; one that may not be is refused, ahead of what tables tell.
func TestStampsOfStep(t *testing.T) {
	five := func(s *scene) [][]tab {
		return s.stack(t, texts(5, func(i int) string { return letter(i) + "1" }))
	}
	for _, stamp := range []int{0, 1, 7, most} {
		s := begin(t, 30)
		next, is := s.wantStep(t, fmt.Sprint("stamp ", stamp), five(s), stamp)
		if !is || len(next[1]) != 1 {
			t.Fatalf("stamp %d: %v", stamp, next)
		}
		for _, ref := range s.blocksOf(t, next[1][0]) {
			if ref.Stamp != stamp {
				t.Errorf("a block has the stamp %d, want %d", ref.Stamp, stamp)
			}
		}
	}
	for _, stamp := range []int{-1, most + 1, -1 << 63, 1<<63 - 1} {
		s := begin(t, 30)
		l := five(s)
		s.refuseStep(t, fmt.Sprint("stamp ", stamp), l, stamp, api.ErrArg)
		s.turn(t, s.blocksOf(t, l[0][0])[0], 500)
		s.refuseStep(t, "and a table is faulty", l, stamp, api.ErrArg)
		s.wantedAre(t, "nothing was asked for")
		s.blow(t)
		s.refuseStep(t, "and the disk is out", l, stamp, api.ErrArg)
	}
}

// P15.5: of the first level all tables are merged with those of the next one that they overlap; the newest pair of a key counts.
func TestStepOfTheFirstLevel(t *testing.T) {
	s := begin(t, 80)
	l := s.stack(t, []string{"c1 d1", "c2 e2", "b3 g3", "f4", "d5 g5"})
	l = s.stepIs(t, "five", l, nil, []string{"b3 c1 d1 e2 f4 g3"})
	l[0] = s.stack(t, []string{"g6", "k6 l6", "k7 m7", "l8", "l9 m9"})[0]
	s.stepIs(t, "five more over one", l, nil, []string{"b3 c1 d1 e2 f4 g6 k6 l6 m7"})

	s = begin(t, 80)
	l = s.stack(t, []string{"f1 h1", "g2", "f3", "g4", "h5", "i6"}, []string{"a1 e1", "f2 f3", "k1 z1"}[:1], []string{"a1"})
	l[1] = append(l[1], s.stack(t, []string{"i2 j2", "k2 z2"})[0]...)
	l = s.stepIs(t, "six, of which three stay beside", l, nil, []string{"a1 e1", "f1 g2 h1 i6 j2", "k2 z2"}, []string{"a1"})
	s.wantStep(t, "not over any more", l, 9)
}

// P15.5: marks are dropped where no later level's table overlaps what From spans, and kept where one does.
func TestMarksInStep(t *testing.T) {
	from := []string{"c- d1", "e-", "e2 g2", "f- g3", "g4"}
	for behind, drop := range map[string]bool{"": true, "a1 b1": true, "h1 z1": true, "a1 c1": false, "g1 z1": false, "e9": false, "a1 z1": false} {
		for at := 2; at < 4; at++ {
			s := begin(t, 80)
			all := [][]string{from, {"a0 f0"}, nil, nil}
			if behind != "" {
				all[at] = []string{behind}
			}
			next := slices.Clone(all)
			next[0], next[1] = nil, []string{"a0 c- d1 e- f- g2"}
			if drop {
				next[1] = []string{"a0 d1 g2"}
			}
			s.stepIs(t, fmt.Sprint("behind is ", behind), s.stack(t, all...), next...)
		}
	}
	// Where all that is left are marks, no table comes of them.
	s := begin(t, 80)
	l := s.stack(t, []string{"a-", "b-", "c-", "a- b-", "b1 c1"}, []string{"a1 c1"}, []string{"x1"})
	l = s.stepIs(t, "marks alone", l, nil, nil, []string{"x1"})
	if _, taken, _ := s.g.Counts(); taken != 2 {
		t.Errorf("%d blocks are taken, want 2", taken)
	}
	s.wantStep(t, "marks alone", l, 9)
}

// P15.6: a mark of a table of Into beyond what From spans stays, where a later level's table spans its key, though Drop holds: what it hides would come back. Other marks go.
func TestMarksBeyondWhatFromSpans(t *testing.T) {
	for at := 2; at < 4; at++ {
		s := begin(t, 80)
		all := [][]string{{"c1", "d-", "c-", "d2", "c4"}, {"a- d0 x-", "z-"}, nil, nil}
		all[at] = []string{"w9 x9 y9"}
		l := s.stack(t, all...)
		p, e := level.Choose(allRuns(l), 0)
		if e != api.OK || !p.Drop || len(p.Into) != 1 {
			t.Fatalf("Choose: %v, %v", planOf(p), e)
		}
		next := slices.Clone(all)
		next[0], next[1] = nil, []string{"c1 x-", "z-"}
		l = s.stepIs(t, "a mark beyond", l, next...)
		s.getIs(t, "a mark beyond", l, "x", item{key: "x", gone: true}, api.OK)
		s.getIs(t, "no mark there", l, "w", item{key: "w", value: "9"}, api.OK)
		s.getIs(t, "a mark that went", l, "a", item{}, api.ErrMissing)
	}
	// The same from the second level into the third.
	s := begin(t, 200)
	all := [][]string{nil, {"B- D1", "K1 L-", "M1 N-", "O1 P-", "Q1 R-", "e1 f1", "g1 h1", "i1 j1", "k1 l1"},
		{"B0 E- H- I-", "K1 V1", "W0 a0", "e0 f0", "g0 h0", "i0 j0", "k0 l0"}, {"E9", "G9 H9 J9"}}
	l := s.stack(t, all...)
	p, _ := level.Choose(allRuns(l), 1)
	if !p.Drop || string(p.From[0].First) != "B" || len(p.Into) != 1 {
		t.Fatalf("Choose: %v", planOf(p))
	}
	next := slices.Clone(all)
	next[1], next[2] = all[1][1:], slices.Clone(all[2])
	next[2][0] = "D1 E- H- I-" // G9 to J9 spans I, whether it has it or not
	l = s.stepIs(t, "from the second level", l, next...)
	for _, key := range []string{"E", "H"} {
		s.getIs(t, "from the second level", l, key, item{key: key, gone: true}, api.OK)
	}
}

// P15.5: of a later level the table that overlaps the fewest goes, into those of the next one that it overlaps.
func TestStepOfLaterLevels(t *testing.T) {
	s := begin(t, 200)
	second := texts(9, func(i int) string { return letter(2*i) + "1 " + letter(2*i+1) + "1" })
	l := s.stack(t, []string{"A0"}, second, []string{"A2 D2", "E2 J2", "L2 N2", "P2 Q2", "R2 S2"}, []string{"I3"})
	// A-B overlaps one, and is the first of those that do.
	l = s.stepIs(t, "the second level", l, []string{"A0"}, second[1:], []string{"A1 B1 D2", "E2 J2", "L2 N2", "P2 Q2", "R2 S2"}, []string{"I3"})
	s.wantStep(t, "not over any more", l, 9)

	s = begin(t, 200)
	third := texts(17, func(i int) string { return letter(3*i) + "1 " + letter(3*i+1) + "-" })
	l = s.stack(t, nil, nil, third, []string{"A3 B3", "C3 D3", "E3 O3"})
	l = s.stepIs(t, "the third level", l, nil, nil, slices.Concat(third[:5], third[6:]), []string{"A3 B3", "C3 D3", "E3 O3", "P1"})
	if at, is := level.Over(allRuns(l)); is {
		t.Errorf("the level %d is over", at)
	}
}

// P15.5: of several levels that are over the first one is merged, and one alone.
func TestStepOfSeveralLevels(t *testing.T) {
	s := begin(t, 300)
	l := s.stack(t, texts(6, func(i int) string { return letter(i) + "0" }),
		texts(10, func(i int) string { return letter(5*i) + "1 " + letter(5*i+2) + "1" }),
		texts(17, func(i int) string { return letter(3*i) + "2 " + letter(3*i+1) + "2" }))
	for want := 0; want < 40; want++ {
		at, is := over(l)
		if !is {
			if want < 3 {
				t.Errorf("%d steps", want)
			}
			return
		}
		next, did := s.wantStep(t, fmt.Sprint("the step ", want), l, 20+want)
		if !did {
			t.Fatal("nothing was merged")
		}
		for other := range 4 {
			if other != at && other != at+1 && !slices.Equal(next[other], four(l)[other]) {
				t.Errorf("the level %d is merged, but %d has changed", at, other)
			}
		}
		s.g.Settle()
		l = next
	}
	t.Error("there is no end of it")
}

// P15.5: what is merged is cut into parts of 64 pairs, each a table.
func TestPartsOfStep(t *testing.T) {
	for _, n := range []int{1, 5, 12, 13, 25, 26, 32, 51, 64, 64 * 4} {
		s := begin(t, 500)
		l := make([][]tab, 4)
		for i := range 5 {
			l[0] = append(l[0], s.built(t, numbered(min(n, 64), i, 5, fmt.Sprint("value ", i)), 1))
		}
		for at := 64; at < n; at += 64 {
			l[1] = append(l[1], s.built(t, numbered(64, 4*at+7, 4, "below"), 1))
		}
		next, is := s.wantStep(t, fmt.Sprint(n), l, 5)
		total := 5 * min(n, 64)
		var counts []int
		for _, x := range next[1] {
			counts = append(counts, x.count)
		}
		if !is || n <= 64 && len(counts) != (total+63)/64 {
			t.Errorf("%d pairs: tables of %v", total, counts)
		}
		for i, count := range counts {
			if i+1 < len(counts) && n <= 64 && count != 64 {
				t.Errorf("%d pairs: tables of %v", total, counts)
			}
		}
	}
}

// P15.5: ErrFull, where the parts need more blocks than are free, and nothing is written then; just as many will do.
func TestRoomOfStep(t *testing.T) {
	for _, c := range []struct{ pairs, need int }{{1, 2}, {3, 4}, {13, 12}, {26, 23}, {0, 0}} {
		for less := -1; less < 4; less++ {
			if c.need-less < 0 {
				continue
			}
			s := begin(t, 200)
			l := make([][]tab, 1)
			for i := range 5 {
				if c.pairs == 0 {
					l[0] = append(l[0], s.built(t, said("a-"), 1))
				} else {
					l[0] = append(l[0], s.built(t, heavy(c.pairs, i%4, "v"), 1))
				}
			}
			s.fill(t, c.need-less)
			what := fmt.Sprint(4*c.pairs, " pairs, ", c.need-less, " free blocks, of which ", c.need, " are needed")
			if less > 0 {
				s.refuseStep(t, what, l, 5, api.ErrFull)
				continue
			}
			if _, is := s.wantStep(t, what, l, 5); !is {
				t.Errorf("%s: nothing was merged", what)
			}
			if free, _, gone := s.g.Counts(); free != -less || gone == 0 {
				t.Errorf("%s: %d are free, %d let go", what, free, gone)
			}
		}
	}
}

// P15.5: a table of From or of Into that is faulty: the first error, in their order, and nothing is written or let go.
func TestStepOfFaultyTables(t *testing.T) {
	made := func() (*scene, [][]tab) {
		s := begin(t, 80)
		return s, s.stack(t, []string{"c1 d1", "c2 e2", "b3 g3", "f4", "d5 g5"}, []string{"A1", "a1 b1", "e1 f1", "z1"}, []string{"c9"})
	}
	s, l := made()
	all := slices.Concat(l...)
	for i, x := range all {
		for part := range 2 {
			for _, other := range []int{i, len(all) - 1, 7, 3} {
				s, l := made()
				refs := s.blocksOf(t, x)
				also := s.blocksOf(t, all[other])
				s.turn(t, refs[part], 500)
				if other != i {
					s.turn(t, also[0], 600)
				}
				asked := func(i int) bool { return i != 5 && i < 8 } // those of From, and those of Into that overlap
				what := fmt.Sprint("the tables ", i, " and ", other, " are turned")
				switch {
				case asked(i) || other != i && asked(other):
					s.refuseStep(t, what, l, 5, api.ErrFaulty)
					if len(s.g.Wanted()) != 1 {
						t.Errorf("%s: wanted are %v, want one", what, s.g.Wanted())
					}
				default:
					if _, is := s.wantStep(t, what, l, 5); !is {
						t.Errorf("%s: nothing was merged", what)
					}
				}
			}
		}
	}
	s.turn(t, s.blocksOf(t, l[0][3])[0], 500)
	was := s.blocksOf(t, l[1][1])[0]
	s.turn(t, was, 500)
	l[0][1].root = api.Ref{Address: 99}
	s.refuseStep(t, "a Root that is not of the grid, ahead of faulty ones", l, 5, api.ErrArg)
	s.wantedAre(t, "it is the first one")
	l[0][0], l[0][3] = l[0][3], l[0][0]
	s.refuseStep(t, "a faulty one, ahead of a Root that is not of the grid", l, 5, api.ErrFaulty)
}

// P15.5: more than 32 tables, or than 4,096 pairs: merge's error, ahead of there being no room.
func TestStepOfTooMuch(t *testing.T) {
	for _, n := range []int{27, 28, 31, 32, 33} {
		for _, into := range []int{0, 1, 5} {
			s := begin(t, 200)
			l := s.stack(t, texts(n, func(i int) string { return letter(i) + "1" }), texts(into, func(i int) string { return letter(3*i) + "2" }))
			if n+into > 32 {
				s.refuseStep(t, fmt.Sprint(n, " and ", into), l, 5, api.ErrLong)
				s.fill(t, 0)
				s.refuseStep(t, fmt.Sprint(n, " and ", into, ", no room"), l, 5, api.ErrLong)
			} else if _, is := s.wantStep(t, fmt.Sprint(n, " and ", into), l, 5); !is {
				t.Errorf("%d and %d: nothing was merged", n, into)
			}
		}
	}
	// Data blocks with more than 64 pairs, which Build does not write, are 300 pairs each here.
	for _, n := range []int{13, 14} {
		s := begin(t, 200)
		body := ""
		for i := range 300 {
			body += string([]byte{2, byte(i/250 + 1), byte(i%250 + 1), 255})
		}
		l := make([][]tab, 1)
		for range n {
			refs, firsts := []api.Ref{}, ""
			for at := 0; at < 1200; at += 600 {
				ref, e := s.g.Write(api.KindData, nil, []byte(body[at:at+600]), 1)
				ok(t, "Write", e)
				refs, firsts = append(refs, ref), firsts+body[at:at+3]
			}
			root, e := s.g.Write(api.KindIndex, refs, []byte(firsts), 1)
			ok(t, "Write", e)
			l[0] = append(l[0], tab{root, 300, "\x01\x01", "\x02\x32"})
		}
		if n*300 > 4096 {
			s.refuseStep(t, "4,200 pairs", l, 5, api.ErrLong)
		} else if next, is := s.wantStep(t, "3,900 pairs", l, 5); !is || len(next[1]) != 0 {
			t.Errorf("3,900 pairs: %v, %t", next, is)
		}
	}
}

// P15.5: errors behind what was written: what was written, and let go, stays so.
func TestStepThatFailsLate(t *testing.T) {
	// The same table twice: it can't be dropped twice.
	s := begin(t, 40)
	l := s.stack(t, []string{"a1 b-", "c1"})
	l[0] = []tab{l[0][0], l[0][1], l[0][0], l[0][1], l[0][1]}
	got, is, e := level.Step(s.clone(t).g, allRuns(l), 5)
	wantLevels(t, "one table twice", got, e, nil, api.ErrState)
	if is {
		t.Error("true beside an error")
	}
	s.wantStep(t, "one table twice", l, 5)
	if free, taken, gone := s.g.Counts(); free != 34 || taken != 2 || gone != 4 {
		t.Errorf("%d free, %d taken, %d let go", free, taken, gone)
	}
	// A table whose blocks are not taken.
	s = begin(t, 40)
	l = s.stack(t, []string{"a1", "b1", "c1", "d1", "e1"})
	ok(t, "Drop", table.Drop(s.g, l[0][2].run()))
	s.wantStep(t, "one that is let go", l, 5)
	if free, taken, gone := s.g.Counts(); free != 28 || taken != 6 || gone != 6 {
		t.Errorf("%d free, %d taken, %d let go", free, taken, gone)
	}
	// From's are dropped ahead of Into's, each in its order: those behind the first that can't be dropped stay taken.
	for at, gone := range []int{2, 4, 6, 8, 10, 12, 14} {
		s = begin(t, 40)
		l = s.stack(t, []string{"a1", "b1", "c1", "d1", "e1"}, []string{"a2 b2", "d2 e2"})
		ok(t, "Drop", table.Drop(s.g, slices.Concat(l...)[at].run()))
		what := fmt.Sprint("the table ", at, " is let go")
		if _, is := s.wantStep(t, what, l, 5); is {
			t.Errorf("%s: it is merged", what)
		}
		if _, _, n := s.g.Counts(); n != gone {
			t.Errorf("%s: %d are let go, want %d", what, n, gone)
		}
	}
	// First and Last that are not those of the pairs: what comes of it overlaps what stays.
	s = begin(t, 40)
	l = s.stack(t, []string{"a1 m1", "b1", "c1", "d1", "e1"}, []string{"h1"})
	l[0][0].last = "b"
	got, is, e = level.Step(s.clone(t).g, allRuns(l), 5)
	wantLevels(t, "a Last that is not so", got, e, nil, api.ErrArg)
	if is {
		t.Error("true beside an error")
	}
	s.wantStep(t, "a Last that is not so", l, 5)
	if free, taken, gone := s.g.Counts(); free != 26 || taken != 4 || gone != 10 {
		t.Errorf("%d free, %d taken, %d let go", free, taken, gone)
	}
	// A table whose data blocks are not sorted among one another.
	s = begin(t, 40)
	l = s.stack(t, []string{"a1", "b1", "c1", "d1"})
	data, e := s.g.Write(api.KindData, nil, []byte("\x01c\x01x\x01d\xff"), 3)
	ok(t, "Write", e)
	second, e := s.g.Write(api.KindData, nil, []byte("\x01b\x01y"), 3)
	ok(t, "Write", e)
	root, e := s.g.Write(api.KindIndex, []api.Ref{data, second}, []byte("\x01a\x01d"), 3)
	ok(t, "Write", e)
	l[0] = append(l[0], tab{root, 3, "a", "d"})
	s.refuseStep(t, "a list that is not sorted", l, 5, api.ErrArg)
	s.fill(t, 0)
	s.refuseStep(t, "a list that is not sorted, and no room", l, 5, api.ErrArg)
}

// P15.5: the disk goes out at any change: what was written ahead of that stays.
func TestStepWhereTheDiskGoesOut(t *testing.T) {
	for changes := range 12 {
		s := begin(t, 80)
		l := s.stack(t, nil, []string{"a1 b1"})
		for i := range 5 {
			l[0] = append(l[0], s.built(t, numbered(26, i, 5, strings.Repeat("v", 20)), 1))
		}
		next, is := s.wantStepFused(t, fmt.Sprint(changes, " changes"), l, 5, changes)
		if is != (changes >= 10) || is && len(next[1]) != 4 {
			t.Errorf("%d changes: %t, %v", changes, is, next)
		}
	}
	s := begin(t, 80)
	l := s.stack(t, []string{"a1", "b1", "c1", "d1", "e1"})
	s.blow(t)
	s.refuseStep(t, "the disk is out", l, 5, api.ErrBroken)
	s.refuseStep(t, "the disk is out, and the stamp is wrong", l, -1, api.ErrArg)
}

// P15.5: the order of errors: no grid, levels that may not be or a wrong stamp, tables, merging, room.
func TestOrderOfErrorsOfStep(t *testing.T) {
	s := begin(t, 80)
	l := s.stack(t, texts(33, func(i int) string { return letter(i) + "1" }))
	s.fill(t, 0)
	s.refuseStep(t, "too many, no room", l, 5, api.ErrLong)
	s.turn(t, s.blocksOf(t, l[0][32])[1], 500)
	s.refuseStep(t, "and one is faulty", l, 5, api.ErrFaulty)
	bad := append(slices.Clone(l), nil, nil, nil, nil)
	s.refuseStep(t, "and five levels", bad, 5, api.ErrArg)
	for what, g := range noGrids(t, s) {
		all, _, e := level.Step(g, allRuns(bad), -1)
		wantLevels(t, what, all, e, nil, api.ErrNil)
	}
}
