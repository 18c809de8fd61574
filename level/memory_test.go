package level_test

import (
	"bytes"
	"fmt"
	"slices"
	"strings"
	"testing"

	"exchequer/api"
	"exchequer/level"
)

// filled is a copy of a text with filler behind it, as spare room.
func filled(s string) []byte {
	return append([]byte(s), bytes.Repeat([]byte{0xcc}, 20)...)[:len(s)]
}

// roomyTables are tables whose spare room, and that of all they have, is full of what must not be looked at.
func roomyTables(l []tab) []api.Run {
	var all []api.Run
	for _, x := range l {
		all = append(all, api.Run{Root: x.root, Count: x.count, First: filled(x.first), Last: filled(x.last)})
	}
	all = append(all, api.Run{Root: api.Ref{Address: 1, Stamp: 1}, Count: -7}, api.Run{Root: api.Ref{Address: 2}, Count: 1, First: []byte("z"), Last: []byte("a")})
	return all[:len(l)]
}

func roomyLevels(l [][]tab) [][]api.Run {
	var all [][]api.Run
	for _, one := range l {
		all = append(all, roomyTables(one))
	}
	spare := roomyTables(tables("1ba 2aa"))
	return append(all, spare, spare, spare, spare, spare)[:len(l)]
}

// wholeTables is a text of all that tables have, with the spare room of everything.
func wholeTables(l []api.Run) string {
	var s strings.Builder
	fmt.Fprint(&s, len(l), cap(l), l == nil)
	for _, r := range l[:cap(l)] {
		fmt.Fprintf(&s, ", %v %d %d %q %d %q", r.Root, r.Count, len(r.First), r.First[:cap(r.First)], len(r.Last), r.Last[:cap(r.Last)])
	}
	return s.String()
}

func wholeLevels(l [][]api.Run) string {
	s := fmt.Sprint(len(l), cap(l))
	for _, one := range l[:cap(l)] {
		s += "; " + wholeTables(one)
	}
	return s
}

// spoil turns all bytes, with their spare room.
func spoil(b []byte) {
	b = b[:cap(b)]
	for i := range b {
		b[i] ^= 0xa5
	}
}

// spoilTables turns all bytes that tables have, and puts other tables in their place.
func spoilTables(l []api.Run) {
	l = l[:cap(l)]
	for _, r := range l {
		spoil(r.First)
		spoil(r.Last)
	}
	for i := range l {
		l[i] = api.Run{Count: -1, First: []byte("spoilt")}
	}
}

func spoilLevels(l [][]api.Run) {
	for i := range l[:cap(l)] {
		spoilTables(l[:cap(l)][i])
	}
	for i := range l[:cap(l)] {
		l[:cap(l)][i] = []api.Run{{Count: -1}}
	}
}

// answer is what a call answered: lists of tables, lists of pairs, and a text of these as they must be.
type answer struct {
	what  string
	runs  [][]api.Run
	pairs [][]api.Pair
	want  string
}

func (a answer) text() string {
	s := fmt.Sprint(len(a.runs), len(a.pairs))
	for _, l := range a.runs {
		s += fmt.Sprint("; ", len(l))
		for _, r := range l {
			s += fmt.Sprintf(", %v %d %q %q", r.Root, r.Count, r.First, r.Last)
		}
	}
	for _, l := range a.pairs {
		s += fmt.Sprint("; ", len(l))
		for _, p := range l {
			s += fmt.Sprintf(", %q %q %t", p.Key, p.Value, p.Gone)
		}
	}
	return s
}

// handed is what calls are handed.
type handed struct {
	levels   [][]api.Run
	table    api.Run
	plan     api.Plan
	fresh    []api.Run
	from, to []byte
	stays    string // all of it as a text, as it was
}

// handOut is all of that, with spare room.
func handOut(l [][]tab, at int, from, to string) *handed {
	h := &handed{levels: roomyLevels(l), from: filled(from), to: filled(to)}
	h.table = roomyTables([]tab{{api.Ref{Address: 77, Stamp: 7}, 7, "k", "kk"}})[0]
	p, _ := chosen(l, at)
	h.plan = api.Plan{Level: at, From: roomyTables(p.from), Into: roomyTables(p.into), Drop: p.drop}
	if len(p.from) > 0 {
		h.fresh = roomyTables([]tab{{api.Ref{Address: 88}, 8, p.from[0].first, p.from[0].first}})
	}
	h.stays = h.whole()
	return h
}

func (h *handed) whole() string {
	return fmt.Sprint(wholeLevels(h.levels), wholeTables([]api.Run{h.table}), h.plan.Level, h.plan.Drop, wholeTables(h.plan.From), wholeTables(h.plan.Into), wholeTables(h.fresh),
		string(h.from[:cap(h.from)]), len(h.from), string(h.to[:cap(h.to)]), len(h.to))
}

func (h *handed) spoil() {
	spoilLevels(h.levels)
	spoilTables([]api.Run{h.table})
	spoilTables(h.plan.From)
	spoilTables(h.plan.Into)
	spoilTables(h.fresh)
	spoil(h.from)
	spoil(h.to)
}

// answers are what each call answers; each Step is one of a clone.
func (s *scene) answers(t testing.TB, h *handed) []answer {
	t.Helper()
	var l []answer
	add := func(what string, runs [][]api.Run, pairs [][]api.Pair) {
		a := answer{what: what, runs: runs, pairs: pairs}
		a.want = a.text()
		l = append(l, a)
	}
	level.Check(h.levels)
	level.Over(h.levels)
	all, _ := level.Add(h.levels, h.table)
	add("Add", all, nil)
	for at := -1; at < 4; at++ {
		p, _ := level.Choose(h.levels, at)
		add(fmt.Sprint("Choose ", at), [][]api.Run{p.From, p.Into}, nil)
	}
	all, _ = level.Replace(h.levels, h.plan, h.fresh)
	add("Replace", all, nil)
	all, _ = level.Replace(h.levels, api.Plan{Level: 1}, nil)
	add("Replace by nothing", all, nil)
	add("Spans", [][]api.Run{level.Spans(h.levels, h.from, h.to)}, nil)
	add("Spans of all", [][]api.Run{level.Spans(h.levels, nil, nil)}, nil)
	p, _ := level.Get(s.g, h.levels, h.from)
	add("Get", nil, [][]api.Pair{{p}})
	lists, _ := level.Lists(s.g, h.levels, h.from, h.to)
	add("Lists", nil, lists)
	lists, _ = level.Lists(s.g, h.levels, nil, nil)
	add("Lists of all", nil, lists)
	for _, stamp := range []int{5, -1} {
		all, _, _ = level.Step(s.clone(t).g, h.levels, stamp)
		add(fmt.Sprint("Step, stamp ", stamp), all, nil)
	}
	return l
}

// shelves are scenes with levels: of which none is over, the first one is, a later one is, and such as may not be.
func shelves(t testing.TB) map[string]func() (*scene, [][]tab) {
	made := func(all ...[]string) func() (*scene, [][]tab) {
		return func() (*scene, [][]tab) {
			s := begin(t, 120)
			return s, s.stack(t, all...)
		}
	}
	return map[string]func() (*scene, [][]tab){
		"none":               made(),
		"none over":          made([]string{"a1 c-", "b2 d2"}, []string{"a3 b3", "c4 e4"}, nil, []string{"a5 z5"}),
		"the first over":     made([]string{"a1 c-", "b2 d2", "e3", "f- g3", "a4 h4"}, []string{"a5 b5", "c5", "k5"}, []string{"x6"}),
		"the second over":    made([]string{"a1"}, texts(9, func(i int) string { return letter(3*i) + "1 " + letter(3*i+1) + "1" }), []string{"A2 K2", "L2", "M2 d2"}, []string{"B3"}),
		"the third over":     made(nil, nil, texts(17, func(i int) string { return letter(3*i) + "1 " + letter(3*i+1) + "1" }), []string{"A2 K2", "L2 z2"}),
		"such as may not be": made([]string{"a1"}, []string{"c1 d1", "b2 c2"}, []string{"a3"}),
		"five levels":        made([]string{"a1"}, nil, nil, nil, nil),
	}
}

// Rule 4: what is handed in stays as it was, its spare room is neither looked at nor written, and no answer hangs on it.
func TestWhatIsHandedIn(t *testing.T) {
	for what, shelf := range shelves(t) {
		for at := range 3 {
			s, l := shelf()
			plainly := s.answers(t, &handed{levels: allRuns(l), table: tab{api.Ref{Address: 77, Stamp: 7}, 7, "k", "kk"}.run(),
				plan: handOut(l, at, "", "").plan, fresh: handOut(l, at, "", "").fresh, from: []byte("b"), to: []byte("k")})
			h := handOut(l, at, "b", "k")
			got := s.answers(t, h)
			if h.whole() != h.stays {
				t.Errorf("%s: what was handed in has changed: %s, was %s", what, h.whole(), h.stays)
			}
			h.spoil()
			for i, a := range got {
				if a.want != plainly[i].want {
					t.Errorf("%s: %s looks at spare room: %s, want %s", what, a.what, a.want, plainly[i].want)
				}
				if a.text() != a.want {
					t.Errorf("%s: %s hangs on what was handed in: %s, was %s", what, a.what, a.text(), a.want)
				}
			}
		}
	}
}

// Rule 4: an answer shares no memory with what was handed in, nor with another one; nor do two parts of one.
func TestWhatIsAnswered(t *testing.T) {
	for what, shelf := range shelves(t) {
		s, l := shelf()
		h := handOut(l, 0, "b", "k")
		got := s.answers(t, h)
		again := s.answers(t, h)
		for i, a := range got {
			for _, l := range a.runs {
				wantApart(t, what+": "+a.what, a, l)
			}
			for _, l := range a.pairs {
				for _, p := range l {
					spoil(p.Key)
					spoil(p.Value)
				}
			}
			spoilLevels(a.runs)
			if h.whole() != h.stays {
				t.Fatalf("%s: %s is what was handed in", what, a.what)
			}
			for _, b := range slices.Concat(got[i+1:], again) {
				if b.text() != b.want {
					t.Fatalf("%s: %s has changed with %s: %s, was %s", what, b.what, a.what, b.text(), b.want)
				}
			}
		}
	}
}

// wantApart turns each key of tables of an answer by itself, and back, and appends to the list: nothing else of the answer may change with it.
func wantApart(t testing.TB, what string, a answer, l []api.Run) {
	t.Helper()
	for i := range l {
		for _, key := range []*[]byte{&l[i].First, &l[i].Last} {
			old := *key
			*key = nil
			was := a.text()
			spoil(old)
			if a.text() != was {
				t.Errorf("%s: two keys share memory", what)
			}
			spoil(old)
			*key = old
		}
	}
	_ = append(l, api.Run{Count: 5})
	if a.text() != a.want {
		t.Errorf("%s: what is appended to a list stands in another one: %s, was %s", what, a.text(), a.want)
	}
}

// Rule 4: the spare room of answers is empty.
func TestSpareRoomOfAnswers(t *testing.T) {
	empty := func(what string, b []byte) {
		t.Helper()
		if spare := b[len(b):cap(b)]; len(bytes.Trim(spare, "\x00")) != 0 {
			t.Errorf("%s: spare room has %v", what, spare)
		}
	}
	for what, shelf := range shelves(t) {
		for at := range 3 {
			s, l := shelf()
			for _, a := range s.answers(t, handOut(l, at, "b", "k")) {
				for _, one := range a.runs[:cap(a.runs)] {
					for i, r := range one[:cap(one)] {
						if i >= len(one) && tabOf(r) != (tab{}) {
							t.Errorf("%s: %s: spare room has %v", what, a.what, tabOf(r))
						}
						empty(what+": "+a.what, r.First)
						empty(what+": "+a.what, r.Last)
					}
				}
				for _, one := range a.pairs[:cap(a.pairs)] {
					for i, p := range one[:cap(one)] {
						if i >= len(one) && (p.Key != nil || p.Value != nil || p.Gone) {
							t.Errorf("%s: %s: spare room has %v", what, a.what, p)
						}
						empty(what+": "+a.what, p.Key)
						empty(what+": "+a.what, p.Value)
					}
				}
			}
		}
	}
}

// P1: what a call answers hangs on nothing but what it was handed: asked again it is the same.
func TestAskedAgain(t *testing.T) {
	for what, shelf := range shelves(t) {
		s, l := shelf()
		h := handOut(l, 0, "b", "k")
		first, second := s.answers(t, h), s.answers(t, h)
		for i, a := range first {
			if a.want != second[i].want {
				t.Errorf("%s: %s: %s, then %s", what, a.what, a.want, second[i].want)
			}
		}
	}
}
