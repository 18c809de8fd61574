package merge_test

import (
	"fmt"
	"slices"
	"strings"
	"testing"

	"exchequer/api"
	"exchequer/merge"
)

// P14.1: up to 32 lists are merged, more are not, be there pairs in them or not.
func TestHowManyLists(t *testing.T) {
	for _, size := range []int{0, 1, 3} {
		var all [][]item
		for i := range 40 {
			all = append(all, stretch(i%7, 1, size, i, 3))
		}
		for n := range 33 {
			wantMerge(t, fmt.Sprint(n, " lists"), all[:n])
		}
		for n := 33; n <= 40; n++ {
			refuseMerge(t, fmt.Sprint(n, " lists"), lists(all[:n]), api.ErrLong)
		}
	}
	for _, n := range []int{33, 64, 255, 256, 257, 4096, 65536 + 1, 1 << 20} {
		refuseMerge(t, fmt.Sprint(n, " lists"), make([][]api.Pair, n), api.ErrLong)
	}
}

// P14.1: up to 4,096 pairs in all are merged, more are not: in one list, in two, in many, be their keys the same or not, be they Gone or not.
func TestHowManyPairs(t *testing.T) {
	ways := map[string][]int{
		"one list":                     {4096},
		"two lists":                    {2048, 2048},
		"one pair, and all others":     {1, 4095},
		"all others, and one pair":     {4095, 1},
		"nothing, all, nothing":        {0, 4096, 0},
		"32 lists":                     slices.Repeat([]int{128}, 32),
		"32 lists, most of one pair":   append(slices.Repeat([]int{1}, 31), 4065),
		"32 lists, the last ones none": append([]int{1000, 3000, 96}, make([]int, 29)...),
	}
	for what, sizes := range ways {
		for _, c := range []struct {
			what        string
			apart, gone int
		}{{"all of one stretch", 0, 3}, {"each of its own", 5000, 3}, {"all Gone", 1, 1}} {
			var all [][]item
			for i, size := range sizes {
				all = append(all, stretch(i*c.apart, 1, size, i, c.gone))
			}
			wantMerge(t, what+", "+c.what, all)
			for i := range all {
				more := slices.Clone(all)
				more[i] = stretch(i*c.apart, 1, len(all[i])+1, i, c.gone)
				refuseMerge(t, fmt.Sprint(what, ", ", c.what, ", one more in the list ", i), lists(more), api.ErrLong)
			}
			if len(all) < 32 {
				refuseMerge(t, what+", "+c.what+", one more in a list of its own", lists(append(all, said("a1"))), api.ErrLong)
				wantMerge(t, what+", "+c.what+", a list without pairs more", append(all, nil))
			}
		}
	}
	refuseMerge(t, "100,000 pairs", [][]api.Pair{pairs(stretch(0, 1, 100000, 0, 0))}, api.ErrLong)
	refuseMerge(t, "65,536 and 4,096 pairs", lists([][]item{stretch(0, 1, 65536, 0, 0), stretch(0, 1, 4096, 1, 0)}), api.ErrLong)
	same := pairs(stretch(0, 1, 4096, 0, 0))
	refuseMerge(t, "one list of 4,096 pairs 32 times", slices.Repeat([][]api.Pair{same}, 32), api.ErrLong)
}

// notSorted are lists that are not sorted.
func notSorted() map[string][]item {
	long := stretch(0, 1, 100, 0, 0)
	swapped, twice, end := slices.Clone(long), slices.Clone(long), slices.Clone(long)
	swapped[40], swapped[41] = swapped[41], swapped[40]
	twice[70] = twice[69]
	end[99].key = end[98].key
	return map[string][]item{
		"falling":                                   said("b1 a1"),
		"the last two fall":                         said("a1 b1 d1 c1"),
		"the first two fall":                        said("b1 a1 c1 d1"),
		"the last one ahead of all":                 said("b1 c1 d1 a1"),
		"a key twice":                               said("a1 a1"),
		"a key twice, with other values":            said("a1 b1 b2 c1"),
		"a key twice, Gone then":                    said("a1 b1 b-"),
		"a key twice, there again":                  said("a- a1 b1"),
		"a key twice, another one between":          said("a1 b1 a1"),
		"a key ahead of its beginning":              {{key: "ab"}, {key: "a"}},
		"a key ahead of its beginning, by a nought": {{key: "a\x00"}, {key: "a"}},
		"no key, behind one":                        {{key: "a"}, {}},
		"no key twice":                              {{}, {value: "1"}},
		"high bytes ahead of low ones":              {{key: "\xff"}, {key: "\x00"}},
		"high bytes ahead of letters":               {{key: "\x80"}, {key: "z"}},
		"long keys twice":                           {{key: strings.Repeat("k", 33)}, {key: strings.Repeat("k", 33)}},
		"long keys that fall":                       {{key: strings.Repeat("k", 40)}, {key: strings.Repeat("k", 39)}},
		"many, two of them swapped":                 swapped,
		"many, one of them twice":                   twice,
		"many, the last one twice":                  end,
	}
}

// P14.1: a list that is not sorted is refused, as the first, as the last, between, and alone, whatever else there is.
func TestListsThatAreNotSorted(t *testing.T) {
	for what, bad := range notSorted() {
		refuseMerge(t, what+", alone", lists([][]item{bad}), api.ErrArg)
		refuseMerge(t, what+", twice", lists([][]item{bad, bad}), api.ErrArg)
		refuseMerge(t, what+", behind one without pairs", lists([][]item{nil, bad}), api.ErrArg)
		for _, n := range []int{2, 3, 32} {
			for at := range n {
				var all [][]item
				for i := range n {
					all = append(all, stretch(i*3, 1, 5, i, 3))
				}
				all[at] = bad
				refuseMerge(t, fmt.Sprint(what, ", at ", at, " of ", n), lists(all), api.ErrArg)
			}
		}
		refuseMerge(t, what+", with 4,096 pairs in all", lists([][]item{stretch(0, 1, 4096-len(bad), 0, 0), bad}), api.ErrArg)
		refuseMerge(t, what+", ahead of others, with 4,096 pairs in all", lists([][]item{bad, stretch(0, 1, 4096-len(bad), 0, 0)}), api.ErrArg)
	}
}

// P14.1: that there is too much comes ahead of that a list is not sorted.
func TestOrderOfErrors(t *testing.T) {
	for what, bad := range notSorted() {
		refuseMerge(t, what+", the first of 33 lists", append(lists([][]item{bad}), make([][]api.Pair, 32)...), api.ErrLong)
		refuseMerge(t, what+", the last of 33 lists", append(make([][]api.Pair, 32), pairs(bad)), api.ErrLong)
		refuseMerge(t, what+", ahead of too many pairs", lists([][]item{bad, stretch(0, 1, 4097-len(bad), 0, 0)}), api.ErrLong)
		refuseMerge(t, what+", behind too many pairs", lists([][]item{stretch(0, 1, 4097-len(bad), 0, 0), bad}), api.ErrLong)
		refuseMerge(t, what+", behind 4,097 pairs", lists([][]item{stretch(0, 1, 4097, 0, 0), bad}), api.ErrLong)
		refuseMerge(t, what+", and too much of both", slices.Repeat(lists([][]item{stretch(0, 1, 200, 0, 0), bad}), 17), api.ErrLong)
	}
	falling := stretch(0, 1, 4097, 0, 0)
	slices.Reverse(falling)
	refuseMerge(t, "4,097 pairs that fall", lists([][]item{falling}), api.ErrLong)
	refuseMerge(t, "4,096 pairs that fall", lists([][]item{falling[:4096]}), api.ErrArg)
	refuseMerge(t, "4,096 pairs, the last of them wrong", lists([][]item{append(stretch(0, 1, 4095, 0, 0), item{})}), api.ErrArg)
	refuseMerge(t, "4,097 pairs, the last of them wrong", lists([][]item{append(stretch(0, 1, 4096, 0, 0), item{})}), api.ErrLong)
}

// Rule 3: what was refused leaves what comes behind it as it was.
func TestMergeBehindRefused(t *testing.T) {
	all := [][]item{said("a1 c3"), said("a2 b-")}
	for range 3 {
		wantMerge(t, "ahead", all)
		merge.Merge(lists([][]item{said("b1 a1"), said("a9")}), true)
		merge.Merge(make([][]api.Pair, 33), false)
		merge.Cut(pairs(said("a1 b1")), 0)
		wantMerge(t, "behind", all)
	}
}
