package merge_test

import (
	"fmt"
	"math"
	"slices"
	"testing"

	"exchequer/api"
	"exchequer/merge"
)

// wantCut wants pairs to be cut into parts of most each, but for the last one, that are what was cut, one behind the other (P14.2, P14.4).
func wantCut(t testing.TB, what string, l []item, most int) {
	t.Helper()
	parts, e := merge.Cut(pairs(l), most)
	if e != api.OK {
		t.Errorf("%s by %d: %v", what, most, e)
	}
	if want := (len(l) + most - 1) / most; len(parts) != want {
		t.Errorf("%s by %d: %d parts, want %d", what, most, len(parts), want)
		return
	}
	for i, part := range parts {
		wantItems(t, fmt.Sprint(what, " by ", most, ", the part ", i), part, l[i*most:min(len(l), (i+1)*most)])
	}
	wantItems(t, fmt.Sprint(what, " by ", most, ", all parts"), slices.Concat(parts...), l)
}

// refuseCut wants no parts, and ErrArg.
func refuseCut(t testing.TB, l []api.Pair, most int) {
	t.Helper()
	if parts, e := merge.Cut(l, most); e != api.ErrArg || len(parts) != 0 {
		t.Errorf("Cut of %d pairs by %d: %d parts, %v, want ErrArg alone", len(l), most, len(parts), e)
	}
}

// P14.2, P14.4: no pairs, and up to 200, in parts of 1 to 64.
func TestCut(t *testing.T) {
	l := stretch(0, 1, 200, 0, 3)
	for most := 1; most <= 64; most++ {
		for n := range len(l) + 1 {
			wantCut(t, "pairs", l[:n], most)
		}
	}
}

// P14.2: just most pairs are one part, one fewer are, too, and one more are two, the last one of one pair; so with several parts.
func TestCutAtTheEdges(t *testing.T) {
	for _, most := range []int{1, 2, 3, 63, 64} {
		for parts := 1; parts <= 20; parts++ {
			l := stretch(0, 1, most*parts+1, 0, 3)
			for n, want := range map[int][2]int{most*parts - 1: {parts, most - 1}, most * parts: {parts, most}, most*parts + 1: {parts + 1, 1}} {
				if n == (parts-1)*most {
					want = [2]int{parts - 1, most} // parts of one pair: one fewer is a whole part fewer
				}
				wantCut(t, "pairs", l[:n], most)
				got, _ := merge.Cut(pairs(l[:n]), most)
				if len(got) != want[0] || len(got) > 0 && len(got[len(got)-1]) != want[1] {
					t.Errorf("%d pairs by %d: %d parts, want %v", n, most, len(got), want)
				}
			}
		}
	}
}

// P14.2: of no pairs, nil or empty, there are no parts.
func TestCutOfNothing(t *testing.T) {
	for most := 1; most <= 64; most++ {
		for _, none := range [][]api.Pair{nil, {}, make([]api.Pair, 0, 9)} {
			if parts, e := merge.Cut(none, most); len(parts) != 0 || e != api.OK {
				t.Errorf("nothing by %d: %v, %v", most, parts, e)
			}
		}
	}
}

// P14.2: a most that is not from 1 to 64 is refused, whatever there is to cut.
func TestCutByWrongNumbers(t *testing.T) {
	for _, most := range []int{-1, 0, 65, 66, -2, -64, -65, 100, 127, 128, 255, 256, 257, 65536, 65536 + 1, 1 << 31, 1<<32 + 1, -1 << 32, 1 - 1<<32, math.MaxInt, math.MinInt, math.MinInt + 1} {
		for _, n := range []int{0, 1, 2, 63, 64, 65, 66, 300} {
			refuseCut(t, pairs(stretch(0, 1, n, 0, 3)), most)
		}
		refuseCut(t, []api.Pair{}, most)
		refuseCut(t, pairs(said("b1 a1 a1")), most)
	}
}

// P14.2: pairs are cut as they are: whether they are sorted, or may be, is not asked, nor how many they are.
func TestCutOfAnyPairs(t *testing.T) {
	for most := 1; most <= 64; most++ {
		wantCut(t, "odd pairs", odd(), most)
		for what, l := range notSorted() {
			wantCut(t, what, l, most)
		}
		wantCut(t, "the same pair", slices.Repeat(said("a1"), 150), most)
		wantCut(t, "pairs of nothing", make([]item, 150), most)
	}
	for _, most := range []int{1, 7, 64} {
		wantCut(t, "many", stretch(0, 1, 70000, 0, 3), most)
	}
}
