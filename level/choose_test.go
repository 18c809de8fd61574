package level_test

import (
	"fmt"
	"math"
	"slices"
	"testing"

	"exchequer/api"
	"exchequer/level"
)

// wantChoose wants Choose to tell what it must.
func wantChoose(t testing.TB, what string, l [][]tab, at int) {
	t.Helper()
	p, may := chosen(l, at)
	e := api.ErrArg
	if may {
		e = api.OK
	}
	got, err := level.Choose(allRuns(l), at)
	if err != e || fmt.Sprint(planOf(got)) != fmt.Sprint(p) {
		t.Errorf("%s: Choose %d: %v, %v, want %v, %v", what, at, planOf(got), err, p, e)
	}
}

func refuseChoose(t testing.TB, what string, l [][]api.Run, at int) {
	t.Helper()
	got, e := level.Choose(l, at)
	if e != api.ErrArg || got.Level != 0 || len(got.From) > 0 || len(got.Into) > 0 || got.Drop {
		t.Errorf("%s: Choose %d: %v, %v, want %v", what, at, got, e, api.ErrArg)
	}
}

// wantChosen wants Choose to tell tables by their numbers.
func wantChosen(t testing.TB, text string, at int, from, into string, drop bool) {
	t.Helper()
	numbers := func(l []api.Run) string {
		s := ""
		for _, r := range l {
			s += fmt.Sprint(" ", r.Root.Address)
		}
		return s
	}
	l := levels(text)
	p, e := level.Choose(allRuns(l), at)
	if e != api.OK || p.Level != at || numbers(p.From) != from || numbers(p.Into) != into || p.Drop != drop {
		t.Errorf("%s: Choose %d: %v, %v, want%s into%s, %t", text, at, planOf(p), e, from, into, drop)
	}
	wantChoose(t, text, l, at)
}

// P15.2: of the first level all its tables are chosen, in their order, with what overlaps any key from the least First to the greatest Last, gaps too.
func TestChooseOfTheFirstLevel(t *testing.T) {
	wantChosen(t, "1ac", 0, " 1", "", true)
	wantChosen(t, "2bd 1ac", 0, " 2 1", "", true)
	wantChosen(t, "1ac 2ac 3ac 4ac 5ac 6ac", 0, " 1 2 3 4 5 6", "", true)
	wantChosen(t, "1ac 1ac", 0, " 1 1", "", true)
	wantChosen(t, "1ac; 2ac", 0, " 1", " 2", true)
	wantChosen(t, "1fh; 2ae 3fh 4iz", 0, " 1", " 3", true)
	wantChosen(t, "1fh; 2af 3hz", 0, " 1", " 2 3", true) // each of them has one key of it
	wantChosen(t, "1fh; 2ae 3iz", 0, " 1", "", true)     // they lie beside it
	wantChosen(t, "1fh; 2az", 0, " 1", " 2", true)
	wantChosen(t, "1az; 2bc 3dd 4ef", 0, " 1", " 2 3 4", true)
	wantChosen(t, "1xz 2ab; 3aa 4mn 5zz", 0, " 1 2", " 3 4 5", true) // the gap counts
	wantChosen(t, "1ab 2xz; 3cd 4mn 5ww", 0, " 1 2", " 3 4 5", true)
	wantChosen(t, "1mn 2az 3oo; 4aa 5zz", 0, " 1 2 3", " 4 5", true) // the widest one stands between others
	wantChosen(t, "1mn 2ko 3ll; 4jj 5kk 6oo 7pp", 0, " 1 2 3", " 5 6", true)
}

// P15.2: of a later level the table that overlaps the fewest of the next one is chosen, of several the first.
func TestChooseOfALaterLevel(t *testing.T) {
	for at := 1; at < 3; at++ {
		ahead := ";"
		if at == 2 {
			ahead = "9az; 8az;"
		}
		wantChosen(t, ahead+"1ac", at, " 1", "", true)
		wantChosen(t, ahead+"1ac 2df 3gi", at, " 1", "", true)
		wantChosen(t, ahead+"1ac 2df 3gi; 4ai", at, " 1", " 4", true)
		wantChosen(t, ahead+"1ac 2df 3gi; 4aa 5bb 6dd 7gg", at, " 2", " 6", true)
		wantChosen(t, ahead+"1ac 2df 3gi; 4aa 5bb 6dd 7ff 8gg", at, " 3", " 8", true)
		wantChosen(t, ahead+"1ac 2df 3gi; 4aa 6dd", at, " 3", "", true)
		wantChosen(t, ahead+"1ac 2df 3gi; 4aa 5gg", at, " 2", "", true)
		wantChosen(t, ahead+"1ac 2df 3gi; 4cd 5fg", at, " 1", " 4", true)
		wantChosen(t, ahead+"1ac 2eg 3xz; 7bb 8ff", at, " 3", "", true)
		wantChosen(t, ahead+"1ac 2eg 3il; 4aa 5bb 6cc 7ee 8gg 9ii", at, " 3", " 9", true)
		wantChosen(t, ahead+"1ac 2eg 3il; 4aa 5bb 6ce 7ff 8gi", at, " 3", " 8", true)
		wantChosen(t, ahead+"1ac 2eg 3il; 4bf 7gh", at, " 3", "", true)
	}
}

// P15.2: Drop says whether no table of a level behind the next one overlaps what From spans: beside it, at its ends, over it, in a gap.
func TestDrop(t *testing.T) {
	for text, drop := range map[string]bool{
		"":            true,
		"9ae":         true, // beside it
		"9iz":         true,
		"9ae 8iz":     true,
		"9af":         false, // its ends
		"9hz":         false,
		"9ff":         false,
		"9hh":         false,
		"9gg":         false,
		"9az":         false,
		"9ab 8gg 7yz": false,
		"9ab 8cd 7hi": false,
	} {
		wantChosen(t, "1fh;; "+text, 0, " 1", "", drop)
		wantChosen(t, "1fh;;; "+text, 0, " 1", "", drop)
		wantChosen(t, "1fh;; 5aa 6zz; "+text, 0, " 1", "", drop)
		wantChosen(t, "1fh;; "+text+"; 5aa 6zz", 0, " 1", "", drop)
		wantChosen(t, "1fh; 4fh; "+text, 0, " 1", " 4", drop)
		wantChosen(t, "; 1fh;; "+text, 1, " 1", "", drop)
		wantChosen(t, "; 1fh; 4gg; "+text, 1, " 1", " 4", drop)
		// The next level does not count, nor do those ahead.
		wantChosen(t, ";; 1fh; "+text, 2, " 1", numbersOf(overlapping(tables(text), tables("1fh")[0])), true)
		wantChosen(t, "2ff 3hh;; ", 0, " 2 3", "", true)
		wantChosen(t, "2ff 3hh;; "+text, 0, " 2 3", "", drop)
	}
	wantChosen(t, "9az; 1fh", 1, " 1", "", true)
	wantChosen(t, "9az; 8ac 1fh 7iz", 1, " 8", "", true)
	wantChosen(t, "; 1fh 2mn; 3ff 4hh; 5mm", 1, " 2", "", false)
	wantChosen(t, "; 1fh 2mn; 3ff 4hh; 5ff", 1, " 2", "", true)
	// A table of Into that is wider than From's span does not make that wider.
	wantChosen(t, "1fh; 2az; 9aa", 0, " 1", " 2", true)
	wantChosen(t, "1fh; 2ag 3hz; 9aa 8zz; 7ab", 0, " 1", " 2 3", true)
}

func numbersOf(l []tab) string {
	s := ""
	for _, x := range l {
		s += fmt.Sprint(" ", x.root.Address)
	}
	return s
}

// P15.2: levels that may not be chosen of.
func TestChooseOfNone(t *testing.T) {
	full := levels("1ac 2bd; 3ac 4df; 5ac; 6ac 7df")
	for _, at := range []int{-1, 3, 4, 5, math.MinInt, math.MaxInt, math.MaxInt - 1, -2} {
		refuseChoose(t, "full", allRuns(full), at)
		refuseChoose(t, "none", nil, at)
	}
	for at := range 3 {
		wantChoose(t, "full", full, at)
		refuseChoose(t, "none", nil, at)
		refuseChoose(t, "four without tables", make([][]api.Run, 4), at)
		l := slices.Clone(full)
		l[at] = nil
		refuseChoose(t, "without tables", allRuns(l), at)
		refuseChoose(t, "not there", allRuns(full[:at]), at)
		refuseChoose(t, "five", append(allRuns(full), nil), at)
		for _, text := range []string{"1ac 2bd; 3df 4ac; 5ac; 6ac", "1ac 2db; 3ac; 4ac; 5ac", "1ac; 2ac; 3ac; 4ac 5ad"} {
			refuseChoose(t, text, allRuns(levels(text)), at)
		}
	}
	refuseChoose(t, "the last level has tables, the one ahead has none", allRuns(levels("1ac; 2ac;; 3ac")), 2)
}

// P15.2: three tables in a level, any that lie there of six keys, over any in the next one.
func TestChooseOfAll(t *testing.T) {
	var rows [][]tab
	for cuts := range 64 { // which of six keys begin a table, each of which ends ahead of the next one's beginning, or at its own
		for ends := range 2 {
			var one []tab
			for key := range 6 {
				if cuts>>key&1 == 0 {
					continue
				}
				x := tab{root: api.Ref{Address: 1 + len(one)}, count: 1, first: string(rune('a' + key))}
				x.last = x.first
				for next := key + 1; ends == 1 && next < 6 && cuts>>next&1 == 0; next++ {
					x.last = string(rune('a' + next))
				}
				one = append(one, x)
			}
			rows = append(rows, one)
		}
	}
	for i, a := range rows {
		for j, b := range rows {
			c := rows[(i*7+j*3)%len(rows)]
			for at := range 3 {
				wantChoose(t, "all", [][]tab{a, b, c, rows[(i+j)%len(rows)]}, at)
			}
		}
		if t.Failed() {
			t.Fatalf("of %v", a)
		}
	}
}

// P15.2: levels of many tables.
func TestChooseOfMany(t *testing.T) {
	wide := row(3000, 1)
	narrow := row(10000, 5000)
	for i := range narrow {
		narrow[i].first, narrow[i].last = fmt.Sprintf("%05d5", 3*i), fmt.Sprintf("%05d7", 3*i)
	}
	narrow = slices.DeleteFunc(narrow, func(x tab) bool { return x.first > "20000" && x.first < "20003" })
	p, e := level.Choose(allRuns([][]tab{nil, wide, narrow, row(3000, 20000)}), 1)
	if e != api.OK || len(p.From) != 1 || p.From[0].Root.Address != 2001 || len(p.Into) != 1 || p.Drop {
		t.Errorf("%v, %v", planOf(p), e)
	}
	wantChoose(t, "many in the first level", [][]tab{wide[:1000], narrow[:3000], nil, wide[1000:1010]}, 0)
	wantChoose(t, "many in all levels", [][]tab{wide[:40], wide[:200], narrow[:300], wide[:300]}, 1)
}
