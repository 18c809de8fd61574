package merge_test

import (
	"fmt"
	"math/rand"
	"slices"
	"strings"
	"testing"

	"exchequer/api"
	"exchequer/memtable"
	"exchequer/merge"
)

// merged is what lists come to; they must be such as may be merged.
func merged(t testing.TB, all [][]api.Pair, drop bool) []api.Pair {
	t.Helper()
	l, e := merge.Merge(all, drop)
	if e != api.OK {
		t.Errorf("Merge: %v", e)
	}
	return l
}

// wantSteps wants lists, merged at once, to be the same as merged in two steps, those from one on and ahead of another one first (P14.3).
func wantSteps(t testing.TB, what string, all [][]api.Pair, from, to int) {
	t.Helper()
	step := merged(t, all[from:to], false)
	rest := slices.Concat(all[:from], [][]api.Pair{step}, all[to:])
	for _, drop := range []bool{false, true} {
		wantItems(t, fmt.Sprint(what, ", from ", from, " to ", to, " first, drop ", drop), merged(t, rest, drop), items(merged(t, all, drop)))
	}
}

// wantAllSteps wants lists, parted anywhere, to be the same in two steps as in one.
func wantAllSteps(t testing.TB, what string, all [][]api.Pair) {
	t.Helper()
	for from := range len(all) + 1 {
		for to := from; to <= len(all); to++ {
			if from < to || len(all) < 32 { // none of 32 merged first would make 33
				wantSteps(t, what, all, from, to)
			}
		}
	}
}

// wantTold wants what is merged, asked for a key, to tell what the lists tell, one behind the other; where marks are dropped, nothing of one that is Gone (P14.3).
func wantTold(t testing.TB, what string, all [][]item) {
	t.Helper()
	made := lists(all)
	kept, dropped := merged(t, made, false), merged(t, made, true)
	if !memtable.Sorted(kept) || !memtable.Sorted(dropped) {
		t.Errorf("%s: what is merged is not sorted", what)
	}
	keys := []string{"", "\x00", "\xff", numbered(0)}
	every := slices.Concat(all...)
	for at := 0; at < len(every); at += 1 + len(every)/300 { // of many pairs some
		key := every[at].key
		keys = append(keys, key, key+"\x00", key[:len(key)/2])
	}
	for _, key := range keys {
		want, is := first(all, key)
		for drop, l := range map[bool][]api.Pair{false: kept, true: dropped} {
			told, there := want, is
			if drop && want.gone {
				told, there = item{}, false
			}
			got, found := merge.Find([][]api.Pair{l}, []byte(key))
			if found != there || items([]api.Pair{got})[0] != told {
				t.Errorf("%s, drop %t: %.40q is %t, %s, want %t, %s", what, drop, key, found, text(items([]api.Pair{got})), there, text([]item{told}))
			}
		}
		got, found := merge.Find(made, []byte(key))
		if found != is || items([]api.Pair{got})[0] != want {
			t.Errorf("%s: %.40q is %t, %s in the lists, want %t, %s", what, key, found, text(items([]api.Pair{got})), is, text([]item{want}))
		}
	}
}

// byChance is a sorted list of some of these keys, by chance with values or Gone.
func byChance(chance *rand.Rand, keys []string, name string) []item {
	var l []item
	part := chance.Intn(5)
	for _, key := range keys {
		switch {
		case chance.Intn(4) >= part:
		case chance.Intn(3) == 0:
			l = append(l, item{key: key, gone: true})
		default:
			l = append(l, item{key: key, value: name})
		}
	}
	return l
}

// universes are keys, sorted, out of which lists are made.
func universes() [][]string {
	var odds, numbers []string
	for _, i := range odd() {
		odds = append(odds, i.key)
	}
	for i := range 40 {
		numbers = append(numbers, numbered(i))
	}
	return [][]string{{"a"}, {"a", "b", "c"}, {"", "a", "a\x00", "a\x00\x00", "aa", "b"}, odds, numbers}
}

// P14.3: any sorted lists, merged at once and in two steps, parted anywhere, with and without drop; and what they tell of each key.
func TestInTwoSteps(t *testing.T) {
	chance := rand.New(rand.NewSource(14))
	for _, keys := range universes() {
		for round := range 60 {
			var all [][]item
			for i := range chance.Intn(8) {
				all = append(all, byChance(chance, keys, fmt.Sprint("of ", i)))
			}
			what := fmt.Sprint("round ", round, " of ", len(keys), " keys, ", len(all), " lists")
			wantMerge(t, what, all)
			wantAllSteps(t, what, lists(all))
			wantTold(t, what, all)
		}
	}
}

// P14.3: 31 lists and 32, parted anywhere.
func TestManyListsInTwoSteps(t *testing.T) {
	chance := rand.New(rand.NewSource(41))
	for _, n := range []int{31, 32} {
		var all [][]item
		for i := range n {
			all = append(all, byChance(chance, universes()[4], fmt.Sprint("of ", i)))
		}
		wantAllSteps(t, fmt.Sprint(n, " lists"), lists(all))
		wantTold(t, fmt.Sprint(n, " lists"), all)
	}
	full := lists([][]item{stretch(0, 1, 1000, 0, 3), stretch(500, 1, 1000, 1, 2), nil, stretch(0, 3, 1000, 2, 4), stretch(400, 1, 1096, 3, 5)})
	wantAllSteps(t, "4,096 pairs", full)
}

// P14.3: lists that stand next to each other, merged two by two in any order till one is left, come to the same as at once.
func TestInManySteps(t *testing.T) {
	chance := rand.New(rand.NewSource(43))
	for round := range 100 {
		var all [][]item
		for i := range 1 + chance.Intn(32) {
			all = append(all, byChance(chance, universes()[round%5], fmt.Sprint("of ", i)))
		}
		left := lists(all)
		for len(left) > 1 {
			at := chance.Intn(len(left) - 1)
			left[at] = merged(t, left[at:at+2], false)
			left = slices.Delete(left, at+1, at+2)
		}
		wantItems(t, fmt.Sprint("round ", round), left[0], plain(all, false))
		wantItems(t, fmt.Sprint("round ", round, ", drop"), merged(t, left, true), plain(all, true))
	}
}

// P14.3: marks must be kept in the first step: where they are dropped there, what they hide comes back.
func TestMarksDroppedTooEarly(t *testing.T) {
	all := lists([][]item{said("b-"), said("a1 b1"), said("b2")})
	step := merged(t, all[:2], true)
	wantItems(t, "the first step", step, said("a1"))
	wantItems(t, "the second step", merged(t, [][]api.Pair{step, all[2]}, true), said("a1 b2"))
	wantItems(t, "at once", merged(t, all, true), said("a1"))
}

// P14.4: parts of what was merged, and of any pairs, cut by any number, are, one behind the other, what was cut, and are sorted lists again, where that was one.
func TestPartsAreWhatWasCut(t *testing.T) {
	chance := rand.New(rand.NewSource(44))
	for round := range 300 {
		var l []item
		for range chance.Intn(300) {
			l = append(l, item{strings.Repeat("k", chance.Intn(40)), strings.Repeat("v", chance.Intn(140)), chance.Intn(3) == 0})
		}
		wantCut(t, fmt.Sprint("round ", round), l, 1+chance.Intn(64))
	}
	for most := 1; most <= 64; most++ {
		all := [][]item{stretch(0, 2, 70, 0, 3), stretch(1, 3, 60, 1, 2)}
		parts, e := merge.Cut(merged(t, lists(all), true), most)
		if e != api.OK {
			t.Error(e)
		}
		wantItems(t, "merged, and cut", slices.Concat(parts...), plain(all, true))
		wantItems(t, "and merged again", merged(t, parts[:min(len(parts), 32)], true), plain(all, true)[:min(32*most, len(plain(all, true)))])
	}
}

// script takes numbers from bytes, noughts behind their end.
type script struct{ b []byte }

func (s *script) next() int {
	if len(s.b) == 0 {
		return 0
	}
	x := int(s.b[0])
	s.b = s.b[1:]
	return x
}

// key is one of few, so that keys come again, or one of up to 39 bytes.
func (s *script) key() string {
	x := s.next()
	switch {
	case x < 130:
		return string("abcdefgh"[x%8])
	case x < 180:
		return odd()[x%len(odd())].key
	case x < 240:
		return string([]byte{byte(s.next()), byte(s.next())}[:1+x%2])
	}
	return strings.Repeat(string([]byte{byte(s.next())}), s.next()%40)
}

// list is a list that is mostly sorted.
func (s *script) list() []item {
	how := s.next()
	if how%24 == 0 {
		return stretch(s.next(), 1+s.next()%3, s.next()*5, s.next(), 3)
	}
	var l []item
	for range s.next() % 8 {
		i := item{key: s.key(), gone: s.next()%3 == 0}
		if x := s.next(); !i.gone || x > 250 {
			i.value = strings.Repeat(fmt.Sprint(x), x%4)
		}
		l = append(l, i)
	}
	if how%64 != 63 {
		l = plain([][]item{l}, false)
	}
	return l
}

// refusal is the error that lists must be refused with, by the chapter's words.
func refusal(all [][]item) api.Errno {
	if len(all) > 32 || len(slices.Concat(all...)) > 4096 {
		return api.ErrLong
	}
	for _, l := range all {
		for i := range l {
			if i > 0 && l[i-1].key >= l[i].key {
				return api.ErrArg
			}
		}
	}
	return api.OK
}

// play makes lists of a script, and wants all calls of them to be as they must.
func play(t testing.TB, b []byte) {
	t.Helper()
	s := &script{b}
	var all [][]item
	for n := s.next() % 40; n > 0; n-- {
		all = append(all, s.list())
	}
	wantFind(t, "a script", all, s.key(), s.key(), s.key())
	for _, l := range all {
		if most := s.next() - 4; most < 1 || most > 64 {
			refuseCut(t, pairs(l), most)
		} else {
			wantCut(t, "a script", l, most)
		}
	}
	if e := refusal(all); e != api.OK {
		refuseMerge(t, "a script", lists(all), e)
		return
	}
	wantMerge(t, "a script", all)
	wantTold(t, "a script", all)
	from := s.next() % (len(all) + 1)
	if to := from + s.next()%(len(all)+1-from); from < to || len(all) < 32 {
		wantSteps(t, "a script", lists(all), from, to)
	}
}

// P14.1 to P14.4: whatever the lists are.
func TestScripts(t *testing.T) {
	chance := rand.New(rand.NewSource(45))
	for range 400 {
		b := make([]byte, chance.Intn(800))
		chance.Read(b)
		play(t, b)
	}
}

// FuzzMerge looks for lists that are merged, cut or looked through wrongly.
func FuzzMerge(f *testing.F) {
	f.Add([]byte{2, 1, 2, 0, 1, 49, 2, 1, 51, 1, 2, 0, 1, 50, 1, 3, 0, 0, 1, 3, 6, 68})
	f.Add([]byte{33})
	f.Add([]byte{6, 24, 0, 0, 255, 0, 24, 0, 1, 255, 1, 24, 9, 0, 255, 2, 24, 1, 1, 55, 3, 63, 2, 1, 1, 1, 0, 1, 1})
	f.Fuzz(func(t *testing.T, b []byte) { play(t, b[:min(len(b), 1000)]) })
}
