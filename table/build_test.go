package table_test

import (
	"fmt"
	"math"
	"slices"
	"strings"
	"testing"

	"exchequer/api"
	"exchequer/disk"
	"exchequer/table"
)

// blocksOf are the blocks of a table that is built now, in the order in which they are written: the data blocks, then the index block, each at the lowest free place.
func (s *scene) blocksOf(l []item, stamp int) []api.GridBlock {
	var places []int
	for i, how := range s.hows {
		if how == free {
			places = append(places, i+1)
		}
	}
	var all []api.GridBlock
	index := api.GridBlock{Kind: 2}
	for i, body := range packed(l) {
		b := api.GridBlock{Kind: 1, Ref: ref(places[i], stamp), Body: []byte(body)}
		all = append(all, b)
		index.Refs = append(index.Refs, b.Ref)
		index.Body = append(index.Body, counted(firsts(l)[i])...)
	}
	index.Ref = ref(places[len(all)], stamp)
	return append(all, index)
}

// written is the disk behind writes of blocks to their places; they are taken then.
func (s *scene) written(was seen, blocks []api.GridBlock) seen {
	b := []byte(was.now)
	for _, x := range blocks {
		copy(b[placeOf(x.Ref.Address)*256:], laid(x))
		s.hows[x.Ref.Address-1] = taken
	}
	return seen{was.ops + len(blocks), was.up, string(b)}
}

// wantBuild wants a table to be built: which it is, and which blocks are written.
func (s *scene) wantBuild(t testing.TB, what string, l []item, stamp int) api.Run {
	t.Helper()
	blocks, was := s.blocksOf(l, stamp), s.look(t)
	r, e := table.Build(s.g, pairs(l), stamp)
	root := blocks[len(blocks)-1].Ref
	if e != api.OK || !sameRun(r, api.Run{Root: root, Count: len(l), First: []byte(l[0].key), Last: []byte(l[len(l)-1].key)}) {
		t.Errorf("%s: Build: %v, %v, want the root %v", what, r, e, root)
	}
	s.unchanged(t, what, s.written(was, blocks))
	return r
}

// P13.2: tables of all kinds, on a grid of free blocks, and on one where some are not free: which blocks are written, how, and which table is told.
func TestBuild(t *testing.T) {
	for what, l := range tables() {
		s := begin(t, 30)
		first := s.wantBuild(t, what, l, 5)
		second := s.wantBuild(t, what+" again", l, 0)
		wantAll(t, what, s.g, first, l)
		wantAll(t, what+" again", s.g, second, l)
		hows := make([]int, 50)
		for i := range hows {
			hows[i] = []int{taken, free, letGo, free, free, taken}[i*i%6]
		}
		s = beginAs(t, hows)
		wantAll(t, what+" in gaps", s.g, s.wantBuild(t, what+" in gaps", l, 7), l)
	}
}

// P13.2: how the blocks of a table stand, written out.
func TestBuildBytes(t *testing.T) {
	s := begin(t, 4)
	l := append(heavy(5), item{key: "b", gone: true}, item{key: "c", value: "2"})
	s.wantBuild(t, "two data blocks", l, 9)
	five := ""
	for _, p := range l[:5] {
		five += p.bytes()
	}
	for _, b := range []api.GridBlock{
		{Kind: 1, Ref: ref(1, 9), Body: []byte(five + "\x01b\xff" + "\x01c\x012")},
		{Kind: 2, Ref: ref(2, 9), Refs: []api.Ref{ref(1, 9)}, Body: []byte("\x20" + l[0].key)},
	} {
		if raw, e := s.g.Raw(b.Ref); e != api.OK || string(raw) != string(laid(b)) {
			t.Errorf("the block %v: %v, is not as it must be", b.Ref, e)
		}
	}
	s = begin(t, 4)
	l = append(heavy(5), item{key: "b", value: strings.Repeat("v", 48)}, item{key: "c", gone: true})
	s.wantBuild(t, "two data blocks", l, 1)
	b := api.GridBlock{Kind: 2, Ref: ref(3, 1), Refs: []api.Ref{ref(1, 1), ref(2, 1)}, Body: []byte("\x20" + l[0].key + "\x01b")}
	if raw, e := s.g.Raw(b.Ref); e != api.OK || string(raw) != string(laid(b)) {
		t.Errorf("the index block: %v, is not as it must be", e)
	}
}

// P13.2: stamps from 0 to 2^30, and others.
func TestBuildStamps(t *testing.T) {
	for _, stamp := range []int{0, 1, 255, 256, 65536, most - 1, most} {
		s := begin(t, 20)
		wantAll(t, "a stamp", s.g, s.wantBuild(t, fmt.Sprint("stamp ", stamp), heavy(64), stamp), heavy(64))
	}
	for _, stamp := range []int{-1, -2, most + 1, most + 2, math.MinInt32, math.MaxInt32, math.MinInt, math.MaxInt} {
		for _, blocks := range []int{1, 2, 20} {
			s := begin(t, blocks)
			was := s.look(t)
			refuseBuild(t, fmt.Sprint("stamp ", stamp), s.g, pairs(heavy(3)), stamp, api.ErrArg)
			s.unchanged(t, "a wrong stamp", was)
		}
	}
}

// P13.2: what Pack refuses.
func TestBuildOfWrongPairs(t *testing.T) {
	unsorted := heavy(9)
	unsorted[5], unsorted[6] = unsorted[6], unsorted[5]
	for what, l := range map[string][]item{
		"none": nil, "65": light(65), "65 heavy": heavy(65), "unsorted": unsorted,
		"doubled":              {{key: "a"}, {key: "a", gone: true}},
		"a key of no bytes":    {{key: ""}},
		"a key of 33 bytes":    {{key: strings.Repeat("k", 33)}},
		"a value of 129 bytes": {{key: "a"}, {key: "b", value: strings.Repeat("v", 129)}},
		"Gone with a value":    {{key: "a", value: "1", gone: true}},
	} {
		for _, blocks := range []int{1, 40} {
			s := begin(t, blocks)
			was := s.look(t)
			refuseBuild(t, what, s.g, pairs(l), 5, api.ErrArg)
			s.unchanged(t, what, was)
		}
	}
}

// P13.2: just as many free blocks as are needed, and fewer; those that are let go are not free until they are settled.
func TestBuildWhereThereIsLittleRoom(t *testing.T) {
	for what, l := range tables() {
		needs := len(packed(l)) + 1
		for _, lack := range []int{1, 2, needs} {
			for _, how := range []int{taken, letGo} {
				hows := append(slices.Repeat([]int{how}, needs), make([]int, max(0, needs-lack))...)
				s := beginAs(t, hows)
				was := s.look(t)
				refuseBuild(t, what, s.g, pairs(l), 5, api.ErrFull)
				s.unchanged(t, what, was)
				s.g.Settle()
				if how == letGo {
					s.hows = make([]int, len(hows))
					s.wantBuild(t, what+", settled", l, 5)
				}
			}
		}
		s := beginAs(t, append(slices.Repeat([]int{taken}, 3), make([]int, needs)...))
		r := s.wantBuild(t, what+", just room enough", l, 5)
		wantAll(t, what, s.g, r, l)
		refuseBuild(t, what+", full", s.g, pairs(l), 6, api.ErrFull)
		s.check(t, what)
	}
}

// P13.2: the disk stops behind each number of writes: what was written ahead of that stays, and stays taken; no table is told.
func TestBuildWhileTheDiskStops(t *testing.T) {
	for what, l := range tables() {
		needs := len(packed(l)) + 1
		for stop := range needs + 1 {
			s := beginAs(t, append([]int{free, taken, free, letGo}, make([]int, 40)...))
			ok(t, "Fuse", disk.Fuse([]*disk.Disk{s.d}, stop))
			if stop == needs {
				s.wantBuild(t, what, l, 5)
				continue
			}
			blocks, was := s.blocksOf(l, 5), s.look(t)
			refuseBuild(t, what, s.g, pairs(l), 5, api.ErrBroken)
			after := s.written(was, blocks[:stop])
			after.up = false
			s.unchanged(t, fmt.Sprint(what, ", behind ", stop), after)
			refuseBuild(t, what, s.g, pairs(l), 5, api.ErrBroken)
			s.unchanged(t, fmt.Sprint(what, ", again"), after)
			ok(t, "Crash", s.d.Crash(slices.Repeat([]bool{true}, s.d.Sectors()), -1))
			r := s.wantBuild(t, what+", up again", l, 6)
			wantAll(t, what, s.g, r, l)
		}
	}
}

// P13.2: the order of errors.
func TestBuildOrderOfErrors(t *testing.T) {
	wrong, right := pairs([]item{{key: "b"}, {key: "a"}}), pairs(heavy(6))
	for _, out := range []bool{false, true} {
		for _, room := range []int{0, 1, 2, 3} {
			s := beginAs(t, append([]int{taken}, make([]int, room)...))
			if out {
				s.blow(t)
			}
			refuseBuild(t, "wrong pairs, a wrong stamp", s.g, wrong, -1, api.ErrArg)
			refuseBuild(t, "wrong pairs", s.g, wrong, 5, api.ErrArg)
			refuseBuild(t, "a wrong stamp", s.g, right, most+1, api.ErrArg)
			switch {
			case room < 3:
				refuseBuild(t, "no room", s.g, right, 5, api.ErrFull)
			case out:
				refuseBuild(t, "a disk that is out", s.g, right, 5, api.ErrBroken)
			default:
				s.wantBuild(t, "room enough", heavy(6), 5)
			}
			s.check(t, "the order of errors")
		}
	}
}

// P13.2: a table is the same, byte by byte, whichever others were built ahead of it, but for its places and its stamp.
func TestBuildMany(t *testing.T) {
	s := begin(t, 512)
	var runs []api.Run
	var lists [][]item
	for i := 0; ; i++ {
		l := mixed(1+i*7%64, i)
		if len(packed(l))+1 > count(s.hows, free) {
			break
		}
		runs, lists = append(runs, s.wantBuild(t, fmt.Sprint("the table ", i), l, i)), append(lists, l)
	}
	if len(runs) < 40 {
		t.Errorf("only %d tables", len(runs))
	}
	for i, r := range runs {
		wantAll(t, fmt.Sprint("the table ", i), s.g, r, lists[i])
	}
	s.check(t, "many")
}

func count(hows []int, how int) int {
	n := 0
	for _, x := range hows {
		if x == how {
			n++
		}
	}
	return n
}
