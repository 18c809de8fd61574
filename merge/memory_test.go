package merge_test

import (
	"bytes"
	"fmt"
	"slices"
	"strings"
	"testing"

	"exchequer/api"
	"exchequer/merge"
)

// roomy are lists whose spare room, and that of all they have, is full of what must not be looked at.
func roomy(all [][]item) [][]api.Pair {
	spare := []api.Pair{{Key: []byte("\x00 spare"), Value: []byte("spare")}, {Key: []byte("zz spare"), Gone: true}}
	var out [][]api.Pair
	for _, one := range all {
		var l []api.Pair
		for _, i := range one {
			l = append(l, api.Pair{Key: filled(i.key), Value: filled(i.value), Gone: i.gone})
		}
		l = append(l, pairs(items(spare))...)
		out = append(out, l[:len(one)])
	}
	return append(out, spare, spare)[:len(all)]
}

// filled is a copy of a text with filler behind it, as spare room.
func filled(s string) []byte {
	return append([]byte(s), bytes.Repeat([]byte{0xcc}, 20)...)[:len(s)]
}

// whole is a text of all that lists have, with the spare room of everything.
func whole(all [][]api.Pair) string {
	var s strings.Builder
	fmt.Fprint(&s, len(all), cap(all))
	for _, l := range all[:cap(all)] {
		fmt.Fprint(&s, "; ", len(l), cap(l), l == nil)
		for _, p := range l[:cap(l)] {
			fmt.Fprintf(&s, ", %d %q %d %q %t", len(p.Key), p.Key[:cap(p.Key)], len(p.Value), p.Value[:cap(p.Value)], p.Gone)
		}
	}
	return s.String()
}

// spoil turns all bytes, with their spare room.
func spoil(b []byte) {
	b = b[:cap(b)]
	for i := range b {
		b[i] ^= 0xa5
	}
}

// spoilAll turns all bytes that lists have, and puts other pairs and lists in place of theirs, with the spare room of everything.
func spoilAll(all [][]api.Pair) {
	all = all[:cap(all)]
	for _, l := range all {
		for _, p := range l[:cap(l)] {
			spoil(p.Key)
			spoil(p.Value)
		}
	}
	for _, l := range all {
		for i := range l[:cap(l)] {
			l[:cap(l)][i] = api.Pair{Key: []byte("spoilt"), Gone: true}
		}
	}
	for i := range all {
		all[i] = []api.Pair{{Key: []byte("spoilt")}}
	}
}

// answer is what a call answered, as lists, and what it must be.
type answer struct {
	what string
	got  [][]api.Pair
	want string
}

// answers are what each call answers that can be done with lists, one list being cut.
func answers(all [][]api.Pair) []answer {
	var l []answer
	add := func(what string, got [][]api.Pair) { l = append(l, answer{what, got, fullText(got)}) }
	for _, drop := range []bool{false, true} {
		got, _ := merge.Merge(all, drop)
		add(fmt.Sprint("Merge, drop ", drop), [][]api.Pair{got})
	}
	for i, one := range all {
		for _, most := range []int{0, 1, 2, 3, 64} {
			got, _ := merge.Cut(one, most)
			add(fmt.Sprint("Cut of the list ", i, " by ", most), got)
		}
		for _, p := range one {
			got, _ := merge.Find(all, p.Key)
			add(fmt.Sprintf("Find of %q", p.Key), [][]api.Pair{{got}})
		}
	}
	return l
}

// fullText is a text of all that lists of pairs have.
func fullText(all [][]api.Pair) string {
	var s strings.Builder
	for _, l := range all {
		fmt.Fprint(&s, "; ", len(l))
		for _, p := range l {
			fmt.Fprintf(&s, ", %q %q %t", p.Key, p.Value, p.Gone)
		}
	}
	return s.String()
}

// stays wants answers to be as they were.
func stays(t testing.TB, what string, l []answer) {
	t.Helper()
	for _, a := range l {
		if got := fullText(a.got); got != a.want {
			t.Errorf("%s: %s: %s, want %s", what, a.what, got, a.want)
		}
	}
}

// scenes are lists to be merged, cut and looked through: right ones, and such as are refused.
func scenes() map[string][][]item {
	return map[string][][]item{
		"none":         nil,
		"empty ones":   {nil, {}, nil},
		"one":          {said("a1 b- c3")},
		"of one pair":  {said("a1"), said("a2"), said("b3"), said("b-")},
		"the example":  {said("a1 c3"), said("a2 b-")},
		"many":         {stretch(0, 2, 9, 0, 3), nil, stretch(3, 1, 9, 1, 2), stretch(0, 1, 20, 2, 4)},
		"odd ones":     {odd(), said("a1 b2"), {{}, {key: "a"}}},
		"not sorted":   {said("a1 b2"), said("c3 b1 b2 a-")},
		"33 of them":   slices.Repeat([][]item{said("a1 b2")}, 33),
		"values alone": {{{value: "1"}}, {{value: "2"}, {key: "a", value: strings.Repeat("v", 128)}}},
	}
}

// Rule 4: what is handed in stays as it was, its spare room is neither looked at nor written, and no answer hangs on it.
func TestWhatIsHandedIn(t *testing.T) {
	for what, all := range scenes() {
		in, plainly := roomy(all), answers(lists(all))
		was := whole(in)
		got := answers(in)
		if now := whole(in); now != was {
			t.Errorf("%s: what was handed in has changed: %s, was %s", what, now, was)
		}
		if len(got) != len(plainly) {
			t.Fatalf("%s: %d answers, want %d", what, len(got), len(plainly))
		}
		for i, a := range got {
			if a.want != plainly[i].want {
				t.Errorf("%s: %s: with spare room %s, without %s", what, a.what, a.want, plainly[i].want)
			}
		}
		spoilAll(in)
		stays(t, what+", what was handed in was turned", got)
	}
}

// Rule 4: what is answered is new memory, its spare room too: turned, it turns neither what was handed in, nor another answer.
func TestWhatIsAnswered(t *testing.T) {
	for what, all := range scenes() {
		in := roomy(all)
		was := whole(in)
		got, again := answers(in), answers(in)
		for i, a := range got {
			spoilAll(a.got)
			stays(t, fmt.Sprint(what, ", an answer of ", a.what, " was turned"), got[i+1:])
		}
		stays(t, what+", all answers were turned", again)
		if now := whole(in); now != was {
			t.Errorf("%s: answers were turned, and what was handed in has changed: %s, was %s", what, now, was)
		}
	}
}

// Rule 4: no two keys, values or parts of one answer share memory, their spare room neither.
func TestWhatIsAnsweredIsApart(t *testing.T) {
	for what, all := range scenes() {
		for _, a := range answers(lists(all)) {
			texts := [][]byte{}
			for _, p := range slices.Concat(a.got...) {
				texts = append(texts, p.Key, p.Value)
			}
			for i := range texts {
				rest := texts[i+1:]
				was := fmt.Sprintf("%q", rest)
				spoil(texts[i])
				if now := fmt.Sprintf("%q", rest); now != was {
					t.Errorf("%s: %s: a key or value was turned, and others are %s, were %s", what, a.what, now, was)
				}
			}
			for i, l := range a.got {
				rest := a.got[i+1:]
				was := fullText(rest)
				for j := range l[:cap(l)] {
					l[:cap(l)][j] = api.Pair{Key: []byte("another one")}
				}
				if now := fullText(rest); now != was {
					t.Errorf("%s: %s: a part was turned, and others are %s, were %s", what, a.what, now, was)
				}
			}
		}
	}
}

// Rule 4: the spare room of an answer is empty.
func TestSpareRoomOfAnswers(t *testing.T) {
	for what, all := range scenes() {
		for _, a := range answers(roomy(all)) {
			for _, l := range a.got[len(a.got):cap(a.got)] {
				if l != nil {
					t.Errorf("%s: %s: spare room has %v", what, a.what, l)
				}
			}
			for _, l := range a.got {
				for _, p := range l[len(l):cap(l)] {
					if p.Key != nil || p.Value != nil || p.Gone {
						t.Errorf("%s: %s: spare room has %v", what, a.what, p)
					}
				}
				for _, p := range l {
					if len(bytes.Trim(p.Key[len(p.Key):cap(p.Key)], "\x00")) > 0 || len(bytes.Trim(p.Value[len(p.Value):cap(p.Value)], "\x00")) > 0 {
						t.Errorf("%s: %s: spare room of %v is not empty", what, a.what, p)
					}
				}
			}
		}
	}
}

// Rule 4: a part that grows does not write into the next one.
func TestPartsGrow(t *testing.T) {
	for most := 1; most <= 64; most++ {
		l := stretch(0, 1, 130, 0, 3)
		parts, _ := merge.Cut(pairs(l), most)
		for i := range parts {
			grown := append(parts[i], pairs(said("z1"))...)
			wantItems(t, "a part that grew", grown[:len(parts[i])], l[i*most:min(len(l), (i+1)*most)])
			wantItems(t, "all parts", slices.Concat(parts...), l)
		}
	}
}

// Rule 4: one memory may be handed in at several places: one list several times, all keys and values as pieces of one text, what was answered.
func TestSharedArguments(t *testing.T) {
	one := pairs(said("a1 b- c3"))
	for n := 1; n <= 32; n++ {
		got, e := merge.Merge(slices.Repeat([][]api.Pair{one}, n), false)
		wantItems(t, fmt.Sprint("one list ", n, " times"), got, said("a1 b- c3"))
		if e != api.OK {
			t.Error(e)
		}
	}
	got, _ := merge.Merge([][]api.Pair{one[1:], one[:2], one}, false)
	wantItems(t, "pieces of one list", got, said("a1 b- c3"))

	bytes := []byte("abcdef")
	pieces := [][]api.Pair{{{Key: bytes[:1], Value: bytes}, {Key: bytes[:2], Value: bytes[1:]}}, {{Key: bytes[1:2], Value: bytes[1:2]}, {Key: bytes[1:], Value: bytes[:0]}}}
	want := []item{{key: "a", value: "abcdef"}, {key: "ab", value: "bcdef"}, {key: "b", value: "b"}, {key: "bcdef"}}
	got, _ = merge.Merge(pieces, false)
	parts, _ := merge.Cut(got, 3)
	spoil(bytes)
	wantItems(t, "pieces of one text", got, want)
	again, _ := merge.Merge([][]api.Pair{got, got[1:]}, false)
	spoilAll([][]api.Pair{got})
	wantItems(t, "an answer handed in again", again, want)
	wantItems(t, "an answer cut", slices.Concat(parts...), want)
}
