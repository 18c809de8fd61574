package merge_test

import (
	"fmt"
	"slices"
	"sort"
	"strings"
	"testing"

	"exchequer/api"
	"exchequer/merge"
)

// item is a pair that can be held against another one.
type item struct {
	key, value string
	gone       bool
}

// pair is an item as a pair; what has no bytes is nil.
func (i item) pair() api.Pair {
	return api.Pair{Key: bytesOf(i.key), Value: bytesOf(i.value), Gone: i.gone}
}

func bytesOf(s string) []byte {
	if s == "" {
		return nil
	}
	return []byte(s)
}

// pairs are items as pairs.
func pairs(l []item) []api.Pair {
	var p []api.Pair
	for _, i := range l {
		p = append(p, i.pair())
	}
	return p
}

// lists are lists of items as lists of pairs.
func lists(all [][]item) [][]api.Pair {
	var l [][]api.Pair
	for _, one := range all {
		l = append(l, pairs(one))
	}
	return l
}

// items are pairs as items.
func items(l []api.Pair) []item {
	var out []item
	for _, p := range l {
		out = append(out, item{string(p.Key), string(p.Value), p.Gone})
	}
	return out
}

// said takes items from a text: a key of one letter, and its value, or - for a key that is Gone; parted by blanks.
func said(text string) []item {
	var l []item
	for _, word := range strings.Fields(text) {
		i := item{key: word[:1], value: word[1:]}
		if i.value == "-" {
			i.value, i.gone = "", true
		}
		l = append(l, i)
	}
	return l
}

// plain is what must come out of lists, by the chapter's words: of each key the pair of the first list that has one, sorted.
func plain(all [][]item, drop bool) []item {
	first := map[string]item{}
	var keys []string
	for _, l := range all {
		for _, i := range l {
			if _, there := first[i.key]; !there {
				first[i.key] = i
				keys = append(keys, i.key)
			}
		}
	}
	sort.Strings(keys)
	var out []item
	for _, key := range keys {
		if i := first[key]; !drop || !i.gone {
			out = append(out, i)
		}
	}
	return out
}

// wantItems wants just these pairs, in this order.
func wantItems(t testing.TB, what string, got []api.Pair, want []item) {
	t.Helper()
	if !slices.Equal(items(got), want) {
		t.Errorf("%s: %s, want %s", what, text(items(got)), text(want))
	}
}

// text is a text of items, as far as it is not too long to read.
func text(l []item) string {
	s := fmt.Sprint(len(l), " pairs:")
	for _, i := range l[:min(len(l), 20)] {
		s += fmt.Sprintf(" %.40q %.40q", i.key, i.value)
		if i.gone {
			s += " Gone"
		}
	}
	return s
}

// wantMerge wants lists to be merged as the plain ones are, whether marks are dropped or not.
func wantMerge(t testing.TB, what string, all [][]item) {
	t.Helper()
	for _, drop := range []bool{false, true} {
		got, e := merge.Merge(lists(all), drop)
		if e != api.OK {
			t.Errorf("%s: Merge: %v", what, e)
		}
		wantItems(t, fmt.Sprint(what, ", drop ", drop), got, plain(all, drop))
	}
}

// refuseMerge wants lists to be refused with this error, and nothing beside it, whether marks are dropped or not.
func refuseMerge(t testing.TB, what string, all [][]api.Pair, want api.Errno) {
	t.Helper()
	for _, drop := range []bool{false, true} {
		if got, e := merge.Merge(all, drop); e != want || len(got) != 0 {
			t.Errorf("%s: Merge: %d pairs, %v, want %v alone", what, len(got), e, want)
		}
	}
}

// numbered is the key of a number: such keys rise as the numbers do.
func numbered(n int) string { return fmt.Sprintf("key %06d", n) }

// stretch are items under so many keys from a number on, each so many behind the last one, with values that name the list; every so manieth of them is Gone, if that is not 0.
func stretch(from, step, count, list, gone int) []item {
	var l []item
	for i := range count {
		x := item{key: numbered(from + i*step), value: fmt.Sprint("list ", list)}
		if gone > 0 && (i+list)%gone == 0 {
			x.value, x.gone = "", true
		}
		l = append(l, x)
	}
	return l
}

// The chapter's examples.
func TestExamples(t *testing.T) {
	all := [][]item{said("a1 c3"), said("a2 b-")}
	got, e := merge.Merge(lists(all), false)
	wantItems(t, "Merge", got, said("a1 b- c3"))
	got, f := merge.Merge(lists(all), true)
	wantItems(t, "Merge, drop", got, said("a1 c3"))
	if e != api.OK || f != api.OK {
		t.Error(e, f)
	}
	for key, want := range map[string]item{"a": {key: "a", value: "1"}, "b": {key: "b", gone: true}} {
		p, there := merge.Find(lists(all), []byte(key))
		wantItems(t, "Find", []api.Pair{p}, []item{want})
		if !there {
			t.Errorf("Find: %s is not there", key)
		}
	}
	if p, there := merge.Find(lists(all), []byte("d")); there || p.Key != nil || p.Value != nil || p.Gone {
		t.Error("Find of d", p, there)
	}
	refuseMerge(t, "b, a", lists([][]item{said("b a")}), api.ErrArg)
	parts, e := merge.Cut(pairs(said("a b c")), 2)
	if len(parts) != 2 || e != api.OK {
		t.Fatal("Cut", parts, e)
	}
	wantItems(t, "Cut", parts[0], said("a b"))
	wantItems(t, "Cut", parts[1], said("c"))
	if parts, e := merge.Cut(pairs(said("a")), 0); len(parts) != 0 || e != api.ErrArg {
		t.Error("Cut", parts, e)
	}
}

// P14.1: no list, and lists without pairs, up to 32, come to no pairs.
func TestMergeOfNothing(t *testing.T) {
	for n := range 33 {
		wantMerge(t, fmt.Sprint(n, " lists without pairs"), make([][]item, n))
		empty := make([][]api.Pair, n)
		for i := range empty {
			empty[i] = []api.Pair{}
		}
		if got, e := merge.Merge(empty, false); len(got) != 0 || e != api.OK {
			t.Errorf("%d empty lists: %v, %v", n, got, e)
		}
	}
	if got, e := merge.Merge(nil, true); len(got) != 0 || e != api.OK {
		t.Error("no list", got, e)
	}
}

// P14.1: three lists in all ways in which each has, of three keys, a value, a mark, or nothing.
func TestMergeOfThreeInAllWays(t *testing.T) {
	keys := []string{"a", "a\x00", "b"}
	var ways [3][][]item
	for list := range ways {
		for code := range 27 {
			var l []item
			for i, key := range keys {
				switch code / []int{1, 3, 9}[i] % 3 {
				case 1:
					l = append(l, item{key: key, value: fmt.Sprint(list)})
				case 2:
					l = append(l, item{key: key, gone: true})
				}
			}
			ways[list] = append(ways[list], l)
		}
	}
	for _, x := range ways[0] {
		wantMerge(t, "one list", [][]item{x})
		for _, y := range ways[1] {
			wantMerge(t, "two lists", [][]item{x, y})
			for _, z := range ways[2] {
				wantMerge(t, "three lists", [][]item{x, y, z})
			}
		}
	}
}

// P14.1: one to 32 lists of one pair and of many, that share no key, some keys or all, in which the lists stand in any order of their keys.
func TestMergeOfManyLists(t *testing.T) {
	for _, n := range []int{1, 2, 3, 4, 5, 7, 8, 9, 15, 16, 17, 31, 32} {
		for _, size := range []int{1, 2, 3, 20, 64, 128} {
			ways := map[string]func(list int) []item{
				"one behind the other":     func(i int) []item { return stretch(i*size, 1, size, i, 3) },
				"the last one ahead":       func(i int) []item { return stretch((n-i)*size, 1, size, i, 3) },
				"in turn":                  func(i int) []item { return stretch(i, n, size, i, 3) },
				"in turn, the last first":  func(i int) []item { return stretch(n-i, n, size, i, 3) },
				"half shared":              func(i int) []item { return stretch(i*size/2, 1, size, i, 2) },
				"half shared, the last on": func(i int) []item { return stretch((n-i)*size/2, 1, size, i, 2) },
				"some shared":              func(i int) []item { return stretch(i%3, 1+i%5, size, i, 4) },
				"all shared":               func(i int) []item { return stretch(0, 1, size, i, 5) },
				"all shared, no marks":     func(i int) []item { return stretch(0, 1, size, i, 0) },
				"of all sizes":             func(i int) []item { return stretch(i%4, 2, size*((i*7+3)%n)/n, i, 3) },
				"every other one is empty": func(i int) []item { return stretch(i, 3, size*(i%2), i, 3) },
			}
			for what, list := range ways {
				var all [][]item
				for i := range n {
					all = append(all, list(i))
				}
				wantMerge(t, fmt.Sprint(n, " lists of ", size, ", ", what), all)
			}
		}
	}
}

// P14.1: of several pairs of one key that of the first list that has one counts, whichever list that is, wherever in the lists the key stands.
func TestTheNewestCounts(t *testing.T) {
	for newest := range 32 {
		for _, ahead := range []int{0, 1, 5} {
			for _, behind := range []int{0, 1, 5} {
				all := make([][]item, 32)
				for i := range all {
					all[i] = stretch(i*3, 1, ahead, i, 0)
					if i >= newest {
						all[i] = append(all[i], item{key: "l", value: fmt.Sprint("of ", i)}, item{key: "m", gone: i == newest})
					}
					for j := range behind {
						all[i] = append(all[i], item{key: fmt.Sprint("n", j), value: fmt.Sprint("of ", i)})
					}
				}
				what := fmt.Sprint("the newest is ", newest)
				wantMerge(t, what, all)
				for key, want := range map[string]item{"l": {"l", fmt.Sprint("of ", newest), false}, "m": {"m", "", true}} {
					got, _ := merge.Merge(lists(all), false)
					if !slices.Contains(items(got), want) {
						t.Errorf("%s: %s is not as it is there: %s", what, key, text(items(got)))
					}
				}
			}
		}
	}
}

// P14.1: pairs that are Gone in the newest list, in an older one, in all; they count, and hide what is older, whether they are dropped or not.
func TestMarks(t *testing.T) {
	for _, c := range []struct {
		what       string
		all        [][]item
		kept, drop string
	}{
		{"in the newest", [][]item{said("a-"), said("a2")}, "a-", ""},
		{"in an older one", [][]item{said("a1"), said("a-")}, "a1", "a1"},
		{"between", [][]item{said("a1"), said("a-"), said("a3")}, "a1", "a1"},
		{"in an older one, a value behind it", [][]item{said("b1"), said("a-"), said("a3")}, "a- b1", "b1"},
		{"in all", [][]item{said("a- b-"), said("a-"), said("b- c-")}, "a- b- c-", ""},
		{"in the one list", [][]item{said("a- b2 c-")}, "a- b2 c-", "b2"},
		{"all of the one list", [][]item{said("a- b- c-")}, "a- b- c-", ""},
		{"nowhere", [][]item{said("a1"), said("b2")}, "a1 b2", "a1 b2"},
		{"the first ones, and the last ones", [][]item{said("a- b- y- z-"), said("a1 c1 z1")}, "a- b- c1 y- z-", "c1"},
		{"over and over", [][]item{said("b-"), said("a1 b1"), said("a- b-"), said("a3 b3 c3"), nil, said("c-")}, "a1 b- c3", "a1 c3"},
	} {
		wantMerge(t, c.what, c.all)
		for drop, want := range map[bool]string{false: c.kept, true: c.drop} {
			got, e := merge.Merge(lists(c.all), drop)
			wantItems(t, c.what, got, said(want))
			if e != api.OK {
				t.Errorf("%s: %v", c.what, e)
			}
		}
	}
	many := make([][]item, 32)
	for i := range many {
		many[i] = stretch(i, 3, 128, i, 1)
	}
	wantMerge(t, "4,096 marks", many)
}

// odd are pairs, sorted, of which no table has most: keys and values of no bytes, of the most that a table's may have, and of more; marks with values.
func odd() []item {
	var l []item
	for i, key := range []string{"", "\x00", "\x00\x00", "a", "a\x00", "ab", "b", strings.Repeat("k", 31), strings.Repeat("k", 32), strings.Repeat("k", 33), strings.Repeat("k", 34), strings.Repeat("m", 5000), "\xff", "\xff\xff", strings.Repeat("\xff", 33)} {
		l = append(l, item{key, strings.Repeat("v", []int{0, 1, 127, 128, 129, 4000}[i%6]), i%4 == 3})
	}
	return l
}

// P14.1: whether a pair may be is not asked: what no table has is merged like all else, byte by byte.
func TestMergeOfOddPairs(t *testing.T) {
	l := odd()
	wantMerge(t, "odd pairs", [][]item{l})
	for i := range l {
		newer, other := item{l[i].key, "newer", false}, item{l[i].key, "", true}
		wantMerge(t, "one of them alone", [][]item{l[i : i+1]})
		wantMerge(t, "one of them ahead", [][]item{{newer}, l})
		wantMerge(t, "one of them behind", [][]item{l, {newer}})
		wantMerge(t, "a mark ahead", [][]item{{other}, l, {newer}})
		wantMerge(t, "parted there", [][]item{l[i:], l[:i]})
		for j := range l {
			wantMerge(t, "parted, some shared", [][]item{l[i:], l[:j], {newer}})
		}
	}
	wantMerge(t, "a value of no bytes, which is no mark", [][]item{{{key: "a"}}, {{key: "a", value: "older"}}})
	wantMerge(t, "no key, a mark, and older ones", [][]item{{{gone: true}}, {{value: "older"}, {key: "a"}}})
}

// P14.1: nil and empty keys and values are the same.
func TestMergeOfNilAndEmpty(t *testing.T) {
	nils := []api.Pair{{}, {Key: []byte("a")}}
	empties := []api.Pair{{Key: []byte{}, Value: []byte{}}, {Key: []byte("a"), Value: make([]byte, 0, 9)}}
	for _, all := range [][][]api.Pair{{nils, empties}, {empties, nils}, {empties}, {nil, empties, {}}} {
		got, e := merge.Merge(all, true)
		wantItems(t, "nil and empty", got, []item{{}, {key: "a"}})
		if e != api.OK {
			t.Error(e)
		}
	}
}
