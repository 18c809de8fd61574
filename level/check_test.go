package level_test

import (
	"fmt"
	"math"
	"math/rand"
	"slices"
	"strings"
	"testing"

	"exchequer/api"
	"exchequer/level"
)

// wantOver wants Over to tell a level, or none.
func wantOver(t testing.TB, what string, l [][]tab, at int, is bool) {
	t.Helper()
	if got, was := level.Over(allRuns(l)); got != at || was != is {
		t.Errorf("%s: Over: %d, %t, want %d, %t", what, got, was, at, is)
	}
}

// wantAdd wants Add to tell just these levels with the table, or to refuse it.
func wantAdd(t testing.TB, what string, l [][]tab, x tab) {
	t.Helper()
	all := four(l)
	all[0] = append([]tab{x}, all[0]...)
	e := api.OK
	if !mayBe(l) || !mayBe(all) {
		e = api.ErrArg
	}
	got, err := level.Add(allRuns(l), x.run())
	wantLevels(t, what+": Add", got, err, all, e)
}

// wantCheck wants levels to be such as may be, or not, for each call that is handed levels alone.
func wantCheck(t testing.TB, what string, l [][]tab, may bool) {
	t.Helper()
	if mayBe(l) != may {
		t.Fatalf("%s: the plain ones say %t", what, !may)
	}
	e := api.OK
	if !may {
		e = api.ErrArg
	}
	want(t, what+": Check", level.Check(allRuns(l)), e)
	at, is := over(l)
	wantOver(t, what, l, at, is)
	wantAdd(t, what, l, tables("99kl")[0])
	for at := -1; at < 5; at++ {
		wantChoose(t, what, l, at)
	}
	wantReplace(t, what, l, plan{}, nil)
	wantSpans(t, what, l, "", "")
	if !may {
		wantRefusedOnGrid(t, what, l)
	}
}

// wantRefusedOnGrid wants the calls that are handed a grid to refuse levels, and not to touch it.
func wantRefusedOnGrid(t testing.TB, what string, l [][]tab) {
	t.Helper()
	s := begin(t, 4)
	was := s.look(t)
	p, e := level.Get(s.g, allRuns(l), []byte("a"))
	wantPair(t, what+": Get", p, e, item{}, api.ErrArg)
	all, e := level.Lists(s.g, allRuns(l), nil, nil)
	wantLists(t, what+": Lists", all, e, nil, api.ErrArg)
	next, is, e := level.Step(s.g, allRuns(l), 5)
	wantLevels(t, what+": Step", next, e, nil, api.ErrArg)
	if is {
		t.Errorf("%s: Step: true beside an error", what)
	}
	s.unchanged(t, what, was)
}

// P15.1: no level, one to four, and five; levels without tables, and with.
func TestHowManyLevels(t *testing.T) {
	for n := range 8 {
		empty := make([][]tab, n)
		wantCheck(t, fmt.Sprint(n, " levels without tables"), empty, n <= 4)
		for at := range n {
			l := make([][]tab, n)
			l[at] = tables("1ac 2df")
			wantCheck(t, fmt.Sprint(n, " levels, one with tables"), l, n <= 4)
		}
	}
	wantCheck(t, "nil", nil, true)
	wantCheck(t, "lists without tables that are not nil", [][]tab{{}, {}, {}, {}}, true)
	wantCheck(t, "gaps between levels", levels("; 1ac;; 2bd"), true)
	wantCheck(t, "tables in each", levels("1ac 2bd 3ac; 4bd 5ef; 6ac 7df; 8ab 9cf"), true)
}

// P15.1: Count, First and Last at their edges, in each level, at each place of it.
func TestWhichTablesMayBe(t *testing.T) {
	long := strings.Repeat("m", 32)
	for what, c := range map[string]struct {
		x   tab
		may bool
	}{
		"Count 1":                              {tab{count: 1, first: "m", last: "n"}, true},
		"Count 0":                              {tab{count: 0, first: "m", last: "n"}, false},
		"Count -1":                             {tab{count: -1, first: "m", last: "n"}, false},
		"the least Count":                      {tab{count: math.MinInt, first: "m", last: "n"}, false},
		"Count 65":                             {tab{count: 65, first: "m", last: "n"}, true},
		"the greatest Count":                   {tab{count: math.MaxInt, first: "m", last: "n"}, true},
		"First of no bytes":                    {tab{count: 1, last: "n"}, false},
		"Last of no bytes":                     {tab{count: 1, first: "m"}, false},
		"both of no bytes":                     {tab{count: 1}, false},
		"First of 32":                          {tab{count: 1, first: long, last: "n"}, true},
		"First of 33":                          {tab{count: 1, first: long + "m", last: "n"}, false},
		"Last of 32":                           {tab{count: 1, first: "m", last: long}, true},
		"Last of 33":                           {tab{count: 1, first: "m", last: long + "m"}, false},
		"both of 32, the same":                 {tab{count: 1, first: long, last: long}, true},
		"both of 33, the same":                 {tab{count: 1, first: long + "m", last: long + "m"}, false},
		"Last the same as First":               {tab{count: 1, first: "m", last: "m"}, true},
		"Last ahead of First":                  {tab{count: 1, first: "n", last: "m"}, false},
		"Last is First's beginning":            {tab{count: 1, first: "mm", last: "m"}, false},
		"First is Last's beginning":            {tab{count: 1, first: "m", last: "m\x00"}, true},
		"bytes above 127":                      {tab{count: 1, first: "m", last: "\xff"}, true},
		"bytes above 127, the other way about": {tab{count: 1, first: "\xff", last: "m"}, false},
		"a Root that no grid has":              {tab{root: api.Ref{Address: -5, Stamp: -7}, count: 1, first: "m", last: "m"}, true},
	} {
		for at := range 4 {
			for place, one := range [][]tab{{c.x}, {tables("1ac")[0], c.x}, {tables("1ac")[0], tables("2de")[0], c.x}} {
				l := make([][]tab, 4)
				l[at] = one
				wantCheck(t, fmt.Sprintf("%s, at %d of the level %d", what, place, at), l, c.may)
			}
		}
		for _, l := range [][][]tab{nil, {nil}, levels("1ac 2bd; 3ac"), levels("1az 2az;;; 3az"), levels("; 1ba"), make([][]tab, 5)} {
			wantAdd(t, what, l, c.x)
		}
	}
}

// P15.1: in the first level tables may overlap, and stand in any order; in a later one they are sorted, each one's Last ahead of the next one's First.
func TestHowTablesStand(t *testing.T) {
	for text, sorted := range map[string]bool{
		"1ac 2df":         true,
		"1ac 2zz":         true,
		"1aa 2bb 3cc":     true,
		"1ac 2cf":         false, // one's Last is the next one's First
		"1aa 2aa":         false,
		"1ad 2cf":         false,
		"1af 2cd":         false,
		"1cd 2af":         false,
		"1df 2ac":         false,
		"1ac 1df":         true, // of one Root
		"1ac 1ac":         false,
		"1ab 2cd 3ce":     false,
		"1ab 2cd 3de":     false,
		"1ab 2bc 3ef":     false,
		"1ab 2cd 3ef 4aa": false,
		"1ab 2ef 3cd":     false,
	} {
		wantCheck(t, text+" in the first level", [][]tab{tables(text)}, true)
		for at := 1; at < 4; at++ {
			l := make([][]tab, 4)
			l[at] = tables(text)
			wantCheck(t, fmt.Sprint(text, " in the level ", at), l, sorted)
			for other := range at {
				l[other] = tables("7ab 8cd 9ez")
			}
			wantCheck(t, fmt.Sprint(text, " in the level ", at, ", behind others"), l, sorted)
		}
	}
	for _, text := range []string{"1yz; 2ab", "; 1yz; 2ab", "; 1yz;; 2ab", "1ac; 2ac; 3ac; 4ac", "; 1ac; 2cf; 3ff", ";; 1ac; 2bb"} {
		wantCheck(t, "one level's last and the next one's first table: "+text, levels(text), true)
	}
	near := [][]tab{nil, {{count: 1, first: "a", last: "b"}, {count: 1, first: "b\x00", last: "c"}}}
	wantCheck(t, "a Last that is the next First's beginning", near, true)
	near[1][1].first, near[1][0].last = "b", "b\x00"
	wantCheck(t, "a First that is the Last's beginning ahead", near, false)
}

// P15.1: a level with just as many tables as it may have is not over, with one more it is; of several the first one counts; the last one never is over.
func TestOver(t *testing.T) {
	room := []int{4, 8, 16}
	for at, most := range room {
		for _, n := range []int{0, 1, most - 1, most, most + 1, most + 2, 3 * most} {
			for _, height := range []int{at + 1, 4} {
				l := make([][]tab, height)
				l[at] = row(n, 1)
				if n > most {
					wantOver(t, fmt.Sprint(n, " in the level ", at), l, at, true)
				} else {
					wantOver(t, fmt.Sprint(n, " in the level ", at), l, 0, false)
				}
			}
		}
	}
	for over := range 8 {
		l := make([][]tab, 4)
		l[3] = row(500, 1)
		first, is := 0, false
		for at := 2; at >= 0; at-- {
			l[at] = row(room[at], 1)
			if over>>at&1 == 1 {
				l[at] = row(room[at]+1, 1)
				first, is = at, true
			}
		}
		wantOver(t, fmt.Sprintf("%03b", over), l, first, is)
		l[3][7].count = 0
		wantOver(t, fmt.Sprintf("%03b, of levels that may not be", over), l, 0, false)
	}
	wantOver(t, "four full levels, and a fifth one", append(make([][]tab, 4), row(90, 1)), 0, false)
	wantOver(t, "five levels, the first over", [][]tab{row(5, 1), nil, nil, nil, nil}, 0, false)
	wantOver(t, "five that overlap", [][]tab{tables("1ac 2ac 3ab 4bz 5aa")}, 0, true)
}

// P15.1: tables that are added one behind the other stand with the newest one first; other levels stay.
func TestAddMany(t *testing.T) {
	l := levels(";1ac 2df; 3bz; 4ab 5cd")
	all := allRuns(l)
	for i := range 40 {
		x := tab{root: api.Ref{Address: 10 + i}, count: 1 + i, first: string(rune('a' + i*7%20)), last: string(rune('a' + i*7%20 + i%6))}
		wantAdd(t, "many", allTabs(all), x)
		var e api.Errno
		all, e = level.Add(all, x.run())
		ok(t, "Add", e)
		if tabOf(all[0][0]) != x || len(all[0]) != i+1 {
			t.Fatalf("%v is not at the front of %v", x, tabs(all[0]))
		}
	}
	wantTables(t, "the level behind", all[1], l[1])
	wantTables(t, "the last level", all[3], l[3])
}

// anyLevels are levels that may be, of keys that are close to one another; nudge breaks some.
func anyLevels(chance *rand.Rand) [][]tab {
	n := 0
	made := func(first, last string) tab {
		n++
		return tab{api.Ref{Address: 1 + n, Stamp: chance.Intn(2)}, 1 + chance.Intn(3), min(first, last), max(first, last)}
	}
	l := make([][]tab, chance.Intn(5))
	for at := range l {
		if at == 0 {
			for range chance.Intn(7) {
				l[0] = append(l[0], made(anyKey(chance), anyKey(chance)))
			}
			continue
		}
		keys := map[string]bool{}
		for range chance.Intn(40) {
			keys[anyKey(chance)] = true
		}
		var sorted []string
		for key := range keys {
			sorted = append(sorted, key)
		}
		slices.Sort(sorted)
		for len(sorted) > 1 {
			end := chance.Intn(2)
			l[at] = append(l[at], made(sorted[0], sorted[end]))
			sorted = sorted[end+1:]
			if len(sorted) > 0 && chance.Intn(4) == 0 {
				sorted = sorted[1:]
			}
		}
	}
	return l
}

// anyKey is one of some dozens, one of 32 bytes among them.
func anyKey(chance *rand.Rand) string {
	key := ""
	for range 1 + chance.Intn(3) {
		key += string([]byte{"\x00abc\xff"[chance.Intn(5)]})
	}
	if chance.Intn(20) == 0 {
		key = strings.Repeat(key[:1], 32)
	}
	return key
}

// nudge changes something of levels, so that they may be such as may not be.
func nudge(chance *rand.Rand, l [][]tab) [][]tab {
	all := [][]tab{}
	for _, one := range l {
		all = append(all, slices.Clone(one))
	}
	if len(all) == 0 {
		return make([][]tab, 5)
	}
	at := chance.Intn(len(all))
	if len(all[at]) == 0 {
		all[at] = []tab{{api.Ref{Address: 1}, chance.Intn(2), anyKey(chance), anyKey(chance)}}
		return all
	}
	x := &all[at][chance.Intn(len(all[at]))]
	switch chance.Intn(6) {
	case 0:
		x.count = chance.Intn(3) - 1
	case 1:
		x.first = anyKey(chance)
	case 2:
		x.last = anyKey(chance)
	case 3:
		x.first, x.last = "a", strings.Repeat("b", 32+chance.Intn(2))
	case 4:
		y := &all[at][chance.Intn(len(all[at]))]
		*x, *y = *y, *x
	default:
		x.first = ""
	}
	return all
}

// P15.1 to P15.3: any levels, such as may be and such as may not.
func TestAnyLevels(t *testing.T) {
	t.Parallel()
	chance := rand.New(rand.NewSource(151))
	refused := 0
	for round := range 3000 {
		l := anyLevels(chance)
		if !mayBe(l) {
			t.Fatalf("these may not be: %v", l)
		}
		if round%2 == 0 {
			l = nudge(chance, l)
		}
		if !mayBe(l) {
			refused++
		}
		what := fmt.Sprint("round ", round)
		e := api.ErrArg
		if mayBe(l) {
			e = api.OK
		}
		want(t, what+": Check", level.Check(allRuns(l)), e)
		at, is := over(l)
		wantOver(t, what, l, at, is)
		first, last := anyKey(chance), anyKey(chance)
		wantAdd(t, what, l, tab{api.Ref{Address: 900}, 1, first, last})
		for at := -1; at < 5; at++ {
			wantChoose(t, what, l, at)
		}
		for range 5 {
			wantAnyReplace(t, what, chance, l)
			wantSpans(t, what, l, anyKey(chance), anyKey(chance))
			wantSpans(t, what, l, "", anyKey(chance))
			wantSpans(t, what, l, anyKey(chance), "")
		}
		if t.Failed() {
			t.Fatalf("of %v", l)
		}
	}
	if refused < 300 || refused > 1500 {
		t.Errorf("%d of 3000 may not be", refused)
	}
}
