package table_test

import (
	"fmt"
	"math"
	"slices"
	"strings"
	"testing"

	"exchequer/api"
	"exchequer/table"
)

// P13.3: Get of each key of tables of all kinds, of keys ahead of the first, between two, behind the last, of beginnings and endings of keys, and of keys that no pair may have.
func TestGet(t *testing.T) {
	for what, l := range tables() {
		s := begin(t, 20)
		r := s.built(t, l, 5)
		there := map[string]item{}
		for _, p := range l {
			there[p.key] = p
		}
		for _, key := range append(near(keysOf(l)...), append(strange(), edgeKeys()...)...) {
			if p, is := there[key]; is {
				wantGet(t, what, s.g, r, p)
			} else {
				refuseGet(t, what, s.g, r, key, api.ErrMissing)
			}
		}
		for _, key := range [][]byte{nil, {}, make([]byte, 0, 9)} {
			if p, e := table.Get(s.g, r, key); e != api.ErrMissing || p.Key != nil || p.Value != nil || p.Gone {
				t.Errorf("%s: Get of no key: %v, %v", what, p, e)
			}
		}
		s.check(t, what)
	}
}

// P13.3: All, and Between of keys about the first keys of all data blocks and some others, in any order, and without either.
func TestBetween(t *testing.T) {
	for what, l := range tables() {
		s := begin(t, 20)
		r := s.built(t, l, 5)
		wantAll(t, what, s.g, r, l)
		keys := append(near(l[0].key, l[len(l)/2].key, l[len(l)-1].key), strange()...)
		for i, key := range firsts(l) {
			keys = append(keys, key)
			if i%4 == 1 {
				keys = append(keys, key+"\x00", key[:len(key)-1])
			}
		}
		for _, from := range keys {
			for _, to := range keys {
				wantBetween(t, what, s.g, r, from, to, slices.DeleteFunc(slices.Clone(l), func(p item) bool {
					return p.key < from || to != "" && p.key >= to
				}))
			}
		}
		s.check(t, what)
	}
}

// P13.3: Between, written out: keys that are there and that are not, from behind to, from the same as to, without from, without to.
func TestBetweenWrittenOut(t *testing.T) {
	s := begin(t, 20)
	l := heavy(12) // of the keys 1, 3, .. 23, in three data blocks, from 1, 11 and 21 on
	r := s.built(t, l, 5)
	key := func(n int) string { return fmt.Sprintf("%032d", n) }
	for _, c := range []struct {
		from, to   string
		first, end int
	}{
		{key(1), key(23), 0, 11}, {key(1), key(24), 0, 12}, {key(3), key(5), 1, 2}, {key(2), key(6), 1, 3}, {key(4), key(5), 2, 2},
		{key(9), key(13), 4, 6}, {key(10), key(12), 5, 6}, {key(11), key(21), 5, 10}, {key(12), key(22), 6, 11}, {key(9), key(11), 4, 5},
		{key(0), key(1), 0, 0}, {key(0), key(2), 0, 1}, {key(24), key(99), 12, 12}, {key(23), key(99), 11, 12},
		{"", key(5), 0, 2}, {"", key(1), 0, 0}, {key(13), "", 6, 12}, {key(24), "", 12, 12}, {"", "", 0, 12},
		{key(7), key(7), 3, 3}, {key(8), key(8), 4, 4}, {key(11), key(11), 5, 5}, {key(13), key(5), 6, 6}, {key(99), key(0), 12, 12}, {key(21), key(11), 0, 0},
	} {
		wantBetween(t, "written out", s.g, r, c.from, c.to, l[c.first:c.end])
	}
}

// asks wants a call to ask for just these data blocks, of a table whose index block is there: turned, each of them is an error, and wanted; the others are not looked at.
func (s *scene) asks(t testing.TB, what string, r api.Run, asked []int, call func() api.Errno) {
	t.Helper()
	blocks, e := table.Blocks(s.g, r)
	ok(t, "Blocks", e)
	for i, b := range blocks[1:] {
		s.turn(t, b.Address, 300, 1)
		e := call()
		s.turn(t, b.Address, 300, 1)
		if wrong := slices.Contains(asked, i); wrong != (e == api.ErrFaulty) || wrong != slices.Contains(s.g.Wanted(), b) {
			t.Errorf("%s: %v where the data block %d is turned, asked for are %v", what, e, i, asked)
		}
		raw, e := s.g.Raw(b)
		ok(t, "Raw", e)
		ok(t, "Install", s.g.Install(b, raw)) // so that it is not wanted any more
	}
}

// P13.3: which data block Get asks for: the last one whose first key is not behind the key, whether it has that key or not; none, if the key is ahead of all.
func TestWhatGetAsksFor(t *testing.T) {
	for _, l := range [][]item{heavy(1), heavy(5), heavy(6), heavy(12), heavy(64), mixed(64, 1), edgy()} {
		s := begin(t, 20)
		r := s.built(t, l, 5)
		for _, key := range append(near(firsts(l)...), append(near(l[0].key, l[len(l)-1].key), strange()...)...) {
			var asked []int
			for i, first := range firsts(l) {
				if first <= key {
					asked = []int{i}
				}
			}
			s.asks(t, fmt.Sprintf("Get(%q)", key), r, asked, func() api.Errno {
				_, e := table.Get(s.g, r, []byte(key))
				return e
			})
		}
	}
}

// P13.3: which data blocks Between asks for: those whose first key is below to, and behind from the next one's; All for all of them; Blocks for none.
func TestWhatBetweenAsksFor(t *testing.T) {
	for _, l := range [][]item{heavy(5), heavy(6), heavy(21), mixed(64, 2)} {
		s := begin(t, 20)
		r := s.built(t, l, 5)
		keys := append([]string{""}, near(firsts(l)[0], firsts(l)[len(firsts(l))/2], firsts(l)[len(firsts(l))-1])...)
		keys = append(keys, l[len(l)/2].key, l[len(l)-1].key, strings.Repeat("\xff", 33))
		var all []int
		for i := range firsts(l) {
			all = append(all, i)
		}
		for _, from := range keys {
			for _, to := range keys {
				var asked []int
				for i, first := range firsts(l) {
					if (to == "" || first < to) && (i == len(all)-1 || firsts(l)[i+1] > from) {
						asked = append(asked, i)
					}
				}
				s.asks(t, fmt.Sprintf("Between(%q, %q)", from, to), r, asked, func() api.Errno {
					_, e := table.Between(s.g, r, []byte(from), []byte(to))
					return e
				})
			}
		}
		s.asks(t, "All", r, all, func() api.Errno {
			_, e := table.All(s.g, r)
			return e
		})
		s.asks(t, "Blocks", r, nil, func() api.Errno {
			_, e := table.Blocks(s.g, r)
			return e
		})
	}
}

// P13.3: which data blocks Between asks for, written out, also where from is behind to.
func TestWhatBetweenAsksForWrittenOut(t *testing.T) {
	s := begin(t, 20)
	r := s.built(t, heavy(17), 5) // four data blocks, from the keys 1, 11, 21 and 31 on
	key := func(n int) string { return fmt.Sprintf("%032d", n) }
	for _, c := range []struct {
		from, to string
		asked    []int
	}{
		{key(11), key(21), []int{1}}, {key(10), key(21), []int{0, 1}}, {key(11), key(22), []int{1, 2}}, {key(20), key(21), []int{1}},
		{key(19), key(22), []int{1, 2}}, {key(30), key(31), []int{2}}, {key(31), key(32), []int{3}}, {key(99), "", []int{3}}, {key(99), key(100), []int{3}},
		{"", key(1), nil}, {key(0), key(1), nil}, {"", key(2), []int{0}}, {"", key(11), []int{0}}, {"", key(12), []int{0, 1}},
		{"", "", []int{0, 1, 2, 3}}, {key(21), "", []int{2, 3}}, {key(20), "", []int{1, 2, 3}},
		{key(15), key(15), []int{1}}, {key(11), key(11), nil}, {key(21), key(11), nil}, {key(17), key(13), []int{1}}, {key(99), key(32), []int{3}}, {key(99), key(0), nil},
	} {
		s.asks(t, fmt.Sprintf("Between(%q, %q)", c.from, c.to), r, c.asked, func() api.Errno {
			_, e := table.Between(s.g, r, []byte(c.from), []byte(c.to))
			return e
		})
	}
}

// P13.3: of a table only its Root is looked at: what Count, First and Last say does not count.
func TestOnlyTheRootCounts(t *testing.T) {
	s := begin(t, 20)
	l := mixed(40, 3)
	r := s.built(t, l, 5)
	for _, other := range []api.Run{
		{Root: r.Root},
		{Root: r.Root, Count: -1, First: []byte("\xff\xff"), Last: []byte("\x00")},
		{Root: r.Root, Count: math.MaxInt, First: make([]byte, 99), Last: make([]byte, 99)},
	} {
		s.wantCalls(t, "another Run", other, keysOf(l)...)
		wantAll(t, "another Run", s.g, other, l)
	}
	want(t, "Drop", table.Drop(s.g, api.Run{Root: r.Root, Count: 3}), api.OK)
}

// P13.3: tables that stand on one grid tell each its own; so they do when the grid is opened anew.
func TestManyTables(t *testing.T) {
	s := begin(t, 200)
	var runs []api.Run
	for i := range 12 {
		runs = append(runs, s.built(t, mixed(5*i+1, i), i))
	}
	for range 2 {
		for i, r := range runs {
			l := mixed(5*i+1, i)
			wantAll(t, "many", s.g, r, l)
			s.wantCalls(t, "many", r, keysOf(l)...)
		}
		ok(t, "Flush", s.g.Flush())
		ok(t, "Crash", s.d.Crash(nil, -1))
		s.reopen(t)
	}
}
