package level_test

import (
	"fmt"
	"slices"
	"strings"
	"testing"

	"exchequer/level"
)

// wantSpans wants Spans to tell what it must.
func wantSpans(t testing.TB, what string, l [][]tab, from, to string) {
	t.Helper()
	wantTables(t, fmt.Sprintf("%s: Spans(%.40q, %.40q)", what, from, to), level.Spans(allRuns(l), []byte(from), []byte(to)), spanned(l, from, to))
}

// wantSpanned wants Spans to tell tables by their numbers.
func wantSpanned(t testing.TB, text, from, to, numbers string) {
	t.Helper()
	if got := numbersOf(tabs(level.Spans(allRuns(levels(text)), []byte(from), []byte(to)))); got != numbers {
		t.Errorf("%s: Spans(%q, %q): %s, want %s", text, from, to, got, numbers)
	}
	wantSpans(t, text, levels(text), from, to)
}

// P15.3: which tables span a key between two, at their ends; a to without bytes is no bound.
func TestSpans(t *testing.T) {
	const l = "1eh"
	wantSpanned(t, l, "", "", " 1")
	wantSpanned(t, l, "e", "", " 1")
	wantSpanned(t, l, "f", "", " 1")
	wantSpanned(t, l, "h", "", " 1") // from is Last
	wantSpanned(t, l, "h\x00", "", "")
	wantSpanned(t, l, "i", "", "")
	wantSpanned(t, l, "", "e", "") // to is First
	wantSpanned(t, l, "", "e\x00", " 1")
	wantSpanned(t, l, "", "f", " 1")
	wantSpanned(t, l, "", "z", " 1")
	wantSpanned(t, l, "a", "d", "")
	wantSpanned(t, l, "a", "e", "")
	wantSpanned(t, l, "h", "h\x00", " 1")
	wantSpanned(t, l, "h", "h", "")
	wantSpanned(t, l, "f", "g", " 1")
	wantSpanned(t, l, "f", "f", "") // no key is from f on and below f
	wantSpanned(t, l, "g", "f", "")
	wantSpanned(t, l, "z", "a", "")
	wantSpanned(t, l, "e", "e", "")
	wantSpanned(t, l, "a", "a", "")
	wantSpanned(t, l, "\xff", "", "")
	wantSpanned(t, l, "", "\x00", "")
	wantSpanned(t, "1ee", "e", "", " 1")
	wantSpanned(t, "1ee", "", "e", "")
	wantSpanned(t, "1ee", "e", "e\x00", " 1")
	wantSpanned(t, "1ee", "d", "f", " 1")
	wantSpanned(t, "1ee", "e\x00", "f", "")
	if got := level.Spans(allRuns(levels(l)), nil, nil); len(got) != 1 {
		t.Errorf("nil, nil: %v", got)
	}
}

// P15.3: the newest ones are told first: level by level, each in its order.
func TestSpansInOrder(t *testing.T) {
	const l = "4ac 1bd 3ac 2zz; 9ab 5cd 6ef; ; 8aa 7bz"
	wantSpanned(t, l, "", "", " 4 1 3 2 9 5 6 8 7")
	wantSpanned(t, l, "a", "b", " 4 3 9 8")
	wantSpanned(t, l, "b", "c", " 4 1 3 9 7")
	wantSpanned(t, l, "c", "", " 4 1 3 2 5 6 7")
	wantSpanned(t, l, "d", "e", " 1 5 7")
	wantSpanned(t, l, "e", "", " 2 6 7")
	wantSpanned(t, l, "g", "z", " 7")
	wantSpanned(t, l, "z", "", " 2 7")
	wantSpanned(t, "", "", "", "")
	wantSpanned(t, ";;;", "a", "b", "")
	wantSpanned(t, "1ac 1ac; 1ac", "a", "", " 1 1 1")
}

// P15.3: of levels that may not be there are none.
func TestSpansOfNone(t *testing.T) {
	for _, l := range []string{"1ac;;;;", "1ca", "1ac; 2df 3ac", "1ac;;; 2df 3ff"} {
		wantSpanned(t, l, "", "", "")
		wantSpanned(t, l, "a", "b", "")
	}
}

// P15.3: any from and to, of keys about the ends of tables, and of keys that no pair may have.
func TestSpansOfAnyKeys(t *testing.T) {
	l := [][]tab{tables("1ac 2bb 3df"), nil, {{count: 1, first: "\x00", last: "\x00\x00"}, {count: 1, first: "a", last: "b\xff"}, {count: 1, first: "c\x00", last: "d"}}}
	long := strings.Repeat("\xff", 32)
	l = append(l, []tab{{count: 1, first: "b", last: "b"}, {count: 1, first: "f", last: long}})
	keys := []string{"", "\x00", "\x00\x00", "\x00\x01", "a", "a\x00", "b", "b\x00", "b\xff", "b\xff\x00", "c", "c\x00", "c\x01", "d", "d\x00", "f", "g", "\xff", long, long + "\x00", strings.Repeat("b", 33), strings.Repeat("a", 3000)}
	for _, from := range keys {
		for _, to := range keys {
			wantSpans(t, "any keys", l, from, to)
			wantSpans(t, "any keys", slices.Concat(l[:2], l[3:]), from, to)
		}
	}
}
