package level_test

import (
	"fmt"
	"math"
	"math/rand"
	"slices"
	"strings"
	"testing"

	"exchequer/api"
	"exchequer/level"
)

// wantReplace wants Replace to tell what it must, and tells whether that is levels.
func wantReplace(t testing.TB, what string, l [][]tab, p plan, fresh []tab) bool {
	t.Helper()
	all, may := replaced(l, p, fresh)
	e := api.ErrArg
	if may {
		e = api.OK
	}
	got, err := level.Replace(allRuns(l), p.plan(), runs(fresh))
	wantLevels(t, fmt.Sprint(what, ": Replace ", p, " by ", fresh), got, err, all, e)
	return may
}

// wantReplaced wants a Replace to come to levels, all told by texts.
func wantReplaced(t testing.TB, text string, at int, from, into, fresh, to string) {
	t.Helper()
	p := plan{level: at, from: tables(from), into: tables(into)}
	got, e := level.Replace(allRuns(levels(text)), p.plan(), runs(tables(fresh)))
	wantLevels(t, fmt.Sprint(text, ": Replace ", p, " by ", fresh), got, e, levels(to), api.OK)
	if !wantReplace(t, text, levels(text), p, tables(fresh)) {
		t.Errorf("%s: the plain ones refuse it", text)
	}
}

func refuseReplace(t testing.TB, text string, at int, from, into, fresh string) {
	t.Helper()
	p := plan{level: at, from: tables(from), into: tables(into)}
	got, e := level.Replace(allRuns(levels(text)), p.plan(), runs(tables(fresh)))
	wantLevels(t, fmt.Sprint(text, ": Replace ", p, " by ", fresh), got, e, nil, api.ErrArg)
	if wantReplace(t, text, levels(text), p, tables(fresh)) {
		t.Errorf("%s: the plain ones do not refuse it", text)
	}
}

// P15.2: tables are put in the place of those that were merged, sorted in by their First; all else stays.
func TestReplace(t *testing.T) {
	wantReplaced(t, "2bd 1ac; 3ef", 0, "2bd 1ac", "", "2bd", "; 2bd 3ef")
	wantReplaced(t, "2bd 1ac; 3ef", 0, "2bd 1ac", "3ef", "9af", "; 9af")
	wantReplaced(t, "2bd 1ac; 3ef", 0, "2bd 1ac", "3ef", "", ";")
	wantReplaced(t, "2bd 1ac; 3ef", 0, "2bd", "", "", "1ac; 3ef")
	wantReplaced(t, "2bd 1ac; 3ef", 0, "", "3ef", "", "2bd 1ac")
	wantReplaced(t, "2bd 1ac; 3ef", 0, "", "", "", "2bd 1ac; 3ef")
	wantReplaced(t, "", 0, "", "", "", "")
	wantReplaced(t, "", 2, "", "", "1ac", ";;; 1ac")
	wantReplaced(t, "1ac", 0, "1ac", "", "7ab 8cc", "; 7ab 8cc")
	wantReplaced(t, "9az; 1ab 2cd 3ef; 4ab 5cd 6ef; 7az", 1, "2cd", "5cd", "8cc 9dd", "9az; 1ab 3ef; 4ab 8cc 9dd 6ef; 7az")
	wantReplaced(t, "9az; 1ab 2cd 3ef; 4ab 5cd 6ef; 7az", 2, "4ab 6ef", "7az", "8ah 9iz", "9az; 1ab 2cd 3ef; 5cd; 8ah 9iz")
	wantReplaced(t, "; 1ab; 4ab 5cd; ", 1, "1ab", "4ab 5cd", "7ax", "; ; 7ax")
	// Fresh ones lie anywhere beside those that stay: ahead, between, behind.
	wantReplaced(t, "1ac; 2bb 3dd 4ff", 0, "", "", "7ee 8aa 9gg 6cc", "1ac; 8aa 2bb 6cc 3dd 7ee 4ff 9gg")
	// They may be in any order.
	wantReplaced(t, "1ac; 2xz", 0, "1ac", "", "9cd 7aa 8bb", "; 7aa 8bb 9cd 2xz")
	wantReplaced(t, "1ac; 2mn", 0, "1ac", "", "9xz 7aa", "; 7aa 2mn 9xz")
	// A fresh one may have the place of one that goes, or its Root.
	wantReplaced(t, "1ac; 2bd", 0, "1ac", "2bd", "2bd", "; 2bd")
	wantReplaced(t, "1ac; 2bd", 0, "1ac", "2bd", "1ad", "; 1ad")
}

// P15.2: a table of a plan is known by its Root alone: its place and its stamp.
func TestReplaceByRoots(t *testing.T) {
	wantReplaced(t, "2bd 1ac; 3ef", 0, "1xx 2yy", "3zz", "9af", "; 9af")
	refuseReplace(t, "2bd 1ac; 3ef", 0, "4bd", "", "")
	refuseReplace(t, "2bd 1ac; 3ef", 0, "2bd 4ac", "3ef", "")
	refuseReplace(t, "2bd 1ac; 3ef", 0, "2bd 1ac", "3ef 4ef", "")
	refuseReplace(t, "2bd 1ac; 3ef", 0, "", "4ef", "")
	refuseReplace(t, "", 0, "1ac", "", "")
	refuseReplace(t, "", 0, "", "1ac", "")
	// There, but in another level.
	for at := range 3 {
		l := "1aa; 2aa; 3aa; 4aa"
		for from := 1; from <= 4; from++ {
			for into := 1; into <= 4; into++ {
				f, i := fmt.Sprint(from, "aa"), fmt.Sprint(into, "aa")
				p := plan{level: at, from: tables(f), into: tables(i)}
				if got := wantReplace(t, l, levels(l), p, nil); got != (from == at+1 && into == at+2) {
					t.Errorf("level %d, from %d, into %d: %t", at, from, into, got)
				}
			}
		}
	}
	// Of another stamp.
	p := plan{from: tables("1ac")}
	p.from[0].root.Stamp = 7
	wantReplace(t, "another stamp", levels("1ac"), p, nil)
	other := levels("1ac")
	other[0][0].root.Stamp = 7
	wantReplace(t, "the same stamp", other, p, nil)
	wantReplace(t, "another stamp", other, plan{from: tables("1ac")}, nil)
	// The same one twice, in the plan and in the level.
	wantReplaced(t, "1ac 2bd", 0, "1ac 1ac", "", "", "2bd")
	wantReplaced(t, "1ac 2bd 1ac", 0, "1ac", "", "", "2bd")
	wantReplaced(t, "1ac 1ac 1ac 1ac 1ac", 0, "1ac 1ac 1ac 1ac 1ac", "", "7ac", "; 7ac")
	wantReplaced(t, "; 1ab 2cd; 3ab 3cd", 1, "2cd", "3ab", "", "; 1ab")
	// One Root in both levels: of each level just those go that the plan names of it.
	wantReplaced(t, "1ab; 1ab", 0, "1ab", "", "", "; 1ab")
	wantReplaced(t, "1ab; 1ab", 0, "", "1ab", "", "1ab")
	wantReplaced(t, "1ab; 1ab", 0, "1ab", "1ab", "", "")
}

// P15.2: what would come of it may not be.
func TestReplaceBySuchAsMayNotBe(t *testing.T) {
	for _, fresh := range []string{
		"9ac", "9cc", "9ff", "9az", "9dd", // they overlap what stays
		"7aa 8aa", "7ab 8bb", "7aa 8gh 9hi", // and each other
		"7bb 8ab", "9ba", "7aa 8ih", // Last ahead of First
	} {
		refuseReplace(t, "1ac; 2cd 3ef", 0, "1ac", "", fresh)
		refuseReplace(t, "; 1ac; 2cd 3ef", 1, "1ac", "", fresh)
		refuseReplace(t, ";; 1ac; 2cd 3ef", 2, "1ac", "", fresh)
	}
	long := strings.Repeat("x", 33)
	for _, x := range []tab{{count: 0, first: "x", last: "x"}, {count: -1, first: "x", last: "x"}, {count: 1, last: "x"}, {count: 1, first: "x"}, {count: 1, first: long, last: "y"}, {count: 1, first: "a", last: long}, {}} {
		for at := range 3 {
			if wantReplace(t, "a fresh one", levels("1ac; 2ac; 3ac; 4ac"), plan{level: at}, []tab{x}) {
				t.Error("it is not refused")
			}
		}
	}
	x := tab{count: 1, first: long[1:], last: long[1:]}
	if !wantReplace(t, "a fresh one", levels("1ac; 2ac"), plan{}, []tab{x}) {
		t.Error("32 bytes are refused")
	}
}

// P15.2: levels that may not be, and plans of no level.
func TestReplaceOfNone(t *testing.T) {
	for _, at := range []int{-1, 3, 4, -2, math.MinInt, math.MaxInt, math.MaxInt - 1} {
		for _, l := range []string{"", "1ac; 2ac; 3ac; 4ac"} {
			refuseReplace(t, l, at, "", "", "")
			refuseReplace(t, l, at, "", "", "9xz")
		}
		refuseReplace(t, "1ac; 2ac; 3ac; 4ac", at, "4ac", "", "")
	}
	for _, l := range []string{"1ac;;;;", "1ac; 2df 3ac; 4ac", "1ca", "1ac; 2ac 3bd", ";; 2ac 3ad", "1aa;;; 2ac 3aa"} {
		refuseReplace(t, l, 0, "", "", "")
		refuseReplace(t, l, 0, "1ac", "", "")
		refuseReplace(t, l, 1, "2df", "", "")
	}
	// That the level that is replaced would be right again does not count.
	refuseReplace(t, "1ac; 2ac 3bd", 0, "1ac", "2ac 3bd", "9ad")
	refuseReplace(t, "1ac; 2ac 3bd", 0, "1ac", "3bd", "")
	refuseReplace(t, "1ca; 2ac", 0, "1ca", "", "")
	// What a plan says of Drop is not looked at.
	for _, drop := range []bool{false, true} {
		if !wantReplace(t, "drop", levels("1ac; 2bd"), plan{from: tables("1ac"), into: tables("2bd"), drop: drop}, tables("9ad")) {
			t.Error("it is refused")
		}
	}
}

// P15.2: what was chosen, replaced by one table over all that it spans, or by none, comes to levels that may be.
func TestReplaceOfWhatWasChosen(t *testing.T) {
	chance := rand.New(rand.NewSource(152))
	for round := range 2000 {
		l := anyLevels(chance)
		for at := range 3 {
			p, may := chosen(l, at)
			if !may {
				continue
			}
			whole := tab{api.Ref{Address: 999}, 1, p.from[0].first, p.from[0].last}
			for _, x := range slices.Concat(p.from, p.into) {
				whole.first, whole.last = min(whole.first, x.first), max(whole.last, x.last)
			}
			if !wantReplace(t, "by one", l, p, []tab{whole}) || !wantReplace(t, "by none", l, p, nil) {
				t.Fatalf("round %d: %v: what was chosen can't be replaced", round, l)
			}
		}
	}
}

// wantAnyReplace wants any Replace to tell what it must.
func wantAnyReplace(t testing.TB, what string, chance *rand.Rand, l [][]tab) {
	t.Helper()
	p := plan{level: chance.Intn(5) - 1, drop: chance.Intn(2) == 0}
	some := func(at int) []tab {
		if chance.Intn(12) == 0 {
			at = chance.Intn(4)
		}
		var all []tab
		if at >= 0 && at < len(l) {
			for _, x := range l[at] {
				if chance.Intn(3) > 0 {
					all = append(all, x)
				}
			}
		}
		return all
	}
	p.from, p.into = some(p.level), some(p.level+1)
	var fresh []tab
	for range chance.Intn(3) {
		a, b := anyKey(chance), anyKey(chance)
		fresh = append(fresh, tab{api.Ref{Address: 800 + chance.Intn(9)}, 1, min(a, b), max(a, b)})
	}
	wantReplace(t, what, l, p, fresh)
}
