package forest_test

import (
	"bytes"
	"fmt"
	"slices"
	"strings"
	"testing"

	"exchequer/api"
	"exchequer/forest"
)

// filled is a copy of a text with filler behind it, as spare room.
func filled(s string) []byte {
	return append([]byte(s), bytes.Repeat([]byte{0xcc}, 20)...)[:len(s)]
}

// spoil turns all bytes, with their spare room.
func spoil(b []byte) {
	b = b[:cap(b)]
	for i := range b {
		b[i] ^= 0xa5
	}
}

// handed are texts that were handed in, as they must stay.
type handed struct {
	l    [][]byte
	must []string
}

// give is a text with spare room that is handed in.
func (h *handed) give(s string) []byte {
	b := filled(s)
	h.l, h.must = append(h.l, b), append(h.must, string(b[:cap(b)]))
	return b
}

// stays wants all that was handed in to be as it was, and then turns it.
func (h *handed) stays(t testing.TB) {
	t.Helper()
	for i, b := range h.l {
		if string(b[:cap(b)]) != h.must[i] {
			t.Errorf("what was handed in has changed: %q, was %q", b[:cap(b)], h.must[i])
		}
		spoil(b)
	}
	h.l, h.must = nil, nil
}

// Rule 4: what is handed in is neither changed nor kept, its spare room neither read nor written.
func TestWhatIsHandedIn(t *testing.T) {
	x := twins(t, 60)
	var h handed
	extra := strings.Repeat("extra", 180)
	for tree := range 6 {
		for _, q := range said("a1 b2 c3 d4") {
			want(t, "Put", x.f.Put(tree, h.give(q.key), h.give(q.value)), x.p.lay(tree, q))
			h.stays(t)
		}
		want(t, "Remove", x.f.Remove(tree, h.give("b")), x.p.lay(tree, item{key: "b", gone: true}))
		h.stays(t)
	}
	look := func(what string) {
		t.Helper()
		for tree := range 6 {
			x.asked(t, what, tree, "a", "b", "c", "d", "e")
			v, e := x.f.Get(tree, h.give("c"))
			if e != api.OK || string(v) != "3" {
				t.Errorf("%s: Get: %q, %v", what, v, e)
			}
			h.stays(t)
			l, e := x.f.Scan(tree, h.give("a"), h.give("d"), 5)
			h.stays(t)
			if e != api.OK || !slices.Equal(items(l), said("a1 c3")) {
				t.Errorf("%s: Scan: %v, %v", what, items(l), e)
			}
		}
	}
	look("in memory")
	must, e := x.p.checkpoint(t, 8, extra)
	ok(t, "Checkpoint", e)
	root, e := x.f.Checkpoint(8, h.give(extra))
	h.stays(t)
	if root != must || e != api.OK {
		t.Errorf("Checkpoint: %v, %v, want %v", root, e, must)
	}
	x.alike(t, "written out")
	look("written out")
	// Too many bytes, with room behind them, and just as many with more behind them.
	long := bytes.Repeat([]byte{7}, 12901)
	if _, e := x.f.Checkpoint(9, long); e != api.ErrLong {
		t.Errorf("12,901 bytes: %v", e)
	}
	root, e = x.f.Checkpoint(9, long[:3:3])
	ok(t, "Checkpoint", e)
	again, e := x.p.checkpoint(t, 9, string(long[:3]))
	if e != api.OK || again != root || !slices.Equal(long, bytes.Repeat([]byte{7}, 12901)) {
		t.Errorf("Checkpoint: %v, want %v, %v", root, again, e)
	}
	x.goOn(t, "behind all that", 10)
}

// answer is a list of bytes that a call answered, with what each must be.
type answer struct {
	what string
	l    [][]byte
	must string
}

func (a answer) text() string { return fmt.Sprintf("%q", a.l) }

// answers are what calls answer of a forest that is opened anew each time, and of one that is there.
func answers(t testing.TB, s *scene, f *forest.Forest, root api.Ref) []answer {
	t.Helper()
	var all []answer
	add := func(what string, l ...[]byte) {
		a := answer{what: what, l: l}
		a.must = a.text()
		all = append(all, a)
	}
	for tree := range 2 {
		for _, key := range []string{"a", "b", "c", "d", "e", "f"} {
			v, _ := f.Get(tree, []byte(key))
			add(fmt.Sprint("Get ", tree, key), v)
		}
		for _, n := range []int{1, 2, 3, 1000} {
			pairs, e := f.Scan(tree, nil, nil, n)
			ok(t, "Scan", e)
			var l [][]byte
			for _, p := range pairs {
				l = append(l, p.Key, p.Value)
			}
			add(fmt.Sprint("Scan ", tree, " ", n), l...)
			for _, p := range pairs[len(pairs):cap(pairs)] {
				if p.Key != nil || p.Value != nil || p.Gone {
					t.Errorf("Scan %d %d: spare room has %v", tree, n, p)
				}
			}
			_ = append(pairs, api.Pair{Key: []byte("appended")})
		}
	}
	_, extra, e := forest.Open(s.clone(t).g, root)
	ok(t, "Open", e)
	add("Open", extra)
	return all
}

// Rule 4: an answer shares no memory with what the forest has, nor with another one, nor do two parts of it; its spare room is empty.
func TestWhatIsAnswered(t *testing.T) {
	s := begin(t, 60)
	f := planted(t, s)
	lay(t, f, 0, said("a1 b2 c3"))
	lay(t, f, 1, said("a4 e5"))
	root, e := f.Checkpoint(8, []byte("some extra bytes"))
	ok(t, "Checkpoint", e)
	lay(t, f, 0, said("b6 d7 c-"))
	got, again := answers(t, s, f, root), answers(t, s, f, root)
	for i, a := range got {
		if a.must != again[i].must {
			t.Errorf("%s: %s, then %s", a.what, a.must, again[i].must)
		}
		for _, b := range a.l {
			if spare := b[len(b):cap(b)]; len(bytes.Trim(spare, "\x00")) != 0 {
				t.Errorf("%s: spare room has %v", a.what, spare)
			}
		}
		for j, b := range a.l {
			was := slices.Clone(a.l)
			was[j] = nil
			must := answer{l: was}.text()
			spoil(b)
			if got := (answer{l: was}).text(); got != must {
				t.Errorf("%s: two parts share memory: %s, was %s", a.what, got, must)
			}
		}
		for _, b := range slices.Concat(got[i+1:], again) {
			if b.text() != b.must {
				t.Fatalf("%s has changed with %s: %s, was %s", b.what, a.what, b.text(), b.must)
			}
		}
	}
	for i, a := range answers(t, s, f, root) {
		if a.must != again[i].must {
			t.Errorf("%s, behind all that: %s, was %s", a.what, a.must, again[i].must)
		}
	}
	sizes := f.Sizes()
	_ = append(sizes, 5)
	clear(sizes[:cap(sizes)])
	wantSizes(t, "cleared", f, map[int][5]int{0: {3, 1}, 1: {0, 1}})
}

// P16.2: of more pairs than most, none of the others stands in the spare room of what is told.
func TestSpareRoomOfScan(t *testing.T) {
	s := begin(t, 60)
	f := planted(t, s)
	lay(t, f, 0, numbered(60, 0, "v"))
	for _, n := range []int{1, 7, 59, 60, 1000} {
		l, e := f.Scan(0, nil, nil, n)
		if e != api.OK || len(l) != min(n, 60) {
			t.Fatalf("%d pairs, %v", len(l), e)
		}
		for _, p := range l[len(l):cap(l)] {
			if p.Key != nil || p.Value != nil || p.Gone {
				t.Errorf("most %d: spare room has %q", n, p.Key)
			}
		}
	}
}

// P1: asked again, a forest tells the same; looking changes nothing.
func TestAskedAgain(t *testing.T) {
	x := rich(t)
	free, ops := x.g.Free(), x.d.Ops()
	for range 3 {
		for tree := range 6 {
			x.asked(t, "again", tree, "00003", "00040", "a", "b")
		}
		x.f.Sizes()
	}
	if !slices.Equal(x.g.Free(), free) || x.d.Ops() != ops {
		t.Error("looking has changed the grid")
	}
	x.alike(t, "again")
}
