package table_test

import (
	"bytes"
	"slices"
	"strings"
	"testing"

	"exchequer/api"
	"exchequer/table"
)

// filler is what stands in spare room.
const filler = "\xcc\xdd\xcc\xdd\xcc\xdd\xcc\xdd"

// roomy is a text as bytes, with filler behind them as spare room.
func roomy(s string) []byte { return []byte(s + filler)[:len(s)] }

// whole is bytes with their spare room.
func whole(b []byte) string { return string(b[:cap(b)][:len(b)+len(filler)]) }

// roomyPairs are pairs whose keys and values have spare room, as the list has.
func roomyPairs(l []item) []api.Pair {
	var all []api.Pair
	for _, p := range append(slices.Clone(l), item{key: "spare"}, item{key: "room"}) {
		all = append(all, api.Pair{Key: roomy(p.key), Value: roomy(p.value), Gone: p.gone})
	}
	return all[:len(l)]
}

// untouched wants what roomyPairs made to be as it was, its spare room too.
func untouched(t testing.TB, what string, got []api.Pair, l []item) {
	t.Helper()
	for i, p := range append(slices.Clone(l), item{key: "spare"}, item{key: "room"}) {
		x := got[:len(l)+2][i]
		if whole(x.Key) != p.key+filler || whole(x.Value) != p.value+filler || x.Gone != p.gone {
			t.Errorf("%s: the pair %d that was handed in has changed: %v", what, i, x)
		}
	}
}

// spoil turns all bytes of a slice, and those of its spare room.
func spoil(b []byte) {
	b = b[:cap(b)]
	for i := range b {
		b[i] ^= 0xa5
	}
}

// spoilPairs turns all bytes of pairs, and puts others into the list and its spare room.
func spoilPairs(l []api.Pair) {
	for _, p := range l {
		spoil(p.Key)
		spoil(p.Value)
	}
	for i := range l[:cap(l)] {
		l[:cap(l)][i] = api.Pair{Key: []byte("spoilt"), Gone: true}
	}
}

// Rule 4: pairs that Pack and Build are handed stay as they were, and nothing hangs on them.
func TestPairsThatAreHandedIn(t *testing.T) {
	for what, l := range tables() {
		in := roomyPairs(l)
		bodies, e := table.Pack(in)
		ok(t, "Pack", e)
		s := begin(t, 20)
		r, e := table.Build(s.g, in, 5)
		ok(t, "Build", e)
		untouched(t, what, in, l)
		spoilPairs(in)
		var told []string
		for _, body := range bodies {
			told = append(told, string(body))
		}
		if !slices.Equal(told, packed(l)) {
			t.Errorf("%s: bodies hang on the pairs", what)
		}
		if string(r.First) != l[0].key || string(r.Last) != l[len(l)-1].key {
			t.Errorf("%s: the table hangs on the pairs", what)
		}
		wantAll(t, what, s.g, r, l)
	}
	for _, l := range [][]item{heavy(65), {{key: "b"}, {key: "a"}}, {{key: ""}}, {{key: "a", value: "1", gone: true}}} {
		in := roomyPairs(l)
		table.Pack(in)
		table.Build(begin(t, 20).g, in, 5)
		untouched(t, "wrong pairs", in, l)
	}
	l := mixed(40, 6)
	in := roomyPairs(l)
	table.Build(begin(t, 1).g, in, 5)
	table.Build(begin(t, 20).g, in, -1)
	table.Build(nil, in, 5)
	untouched(t, "errors", in, l)
}

// Rule 4: what is read is handed keys and a table that stay as they were.
func TestKeysThatAreHandedIn(t *testing.T) {
	s := begin(t, 20)
	l := mixed(40, 7)
	r := s.built(t, l, 5)
	for _, a := range append(near(keysOf(l[:9])...), strange()...) {
		b := l[20].key
		from, to := roomy(a), roomy(b)
		x := api.Run{Root: r.Root, Count: r.Count, First: roomy("first"), Last: roomy("last")}
		_, e := table.Between(s.g, x, from, to)
		ok(t, "Between", e)
		_, e = table.Between(s.g, x, to, from)
		ok(t, "Between", e)
		table.Get(s.g, x, from)
		table.All(s.g, x)
		table.Blocks(s.g, x)
		if whole(from) != a+filler || whole(to) != b+filler || whole(x.First) != "first"+filler || whole(x.Last) != "last"+filler {
			t.Errorf("what was handed in has changed: %q %q %v", whole(from), whole(to), x)
		}
	}
	// The pair that is told is no piece of the key that was asked for.
	key := []byte(l[3].key)
	p, e := table.Get(s.g, r, key)
	ok(t, "Get", e)
	spoil(key)
	if items([]api.Pair{p})[0] != l[3] {
		t.Errorf("a pair hangs on the key: %v", p)
	}
	x := api.Run{Root: r.Root, First: roomy("first"), Last: roomy("last")}
	ok(t, "Drop", table.Drop(s.g, x))
	if whole(x.First) != "first"+filler || whole(x.Last) != "last"+filler {
		t.Errorf("Drop has changed the table: %v", x)
	}
}

// Rule 4: a body that Unpack is handed stays as it was, its spare room is not looked at, and the pairs do not hang on it.
func TestBodiesThatAreHandedIn(t *testing.T) {
	for what, l := range tables() {
		for _, s := range packed(l) {
			body := roomy(s)
			got, e := table.Unpack(body)
			ok(t, "Unpack", e)
			if whole(body) != s+filler {
				t.Errorf("%s: a body has changed", what)
			}
			spoil(body)
			x, _ := parsed(s)
			wantPairs(t, what, got, api.OK, x, api.OK)
			body = roomy(s)
			spoilPairs(got)
			got, e = table.Unpack(body)
			wantPairs(t, what, got, e, x, api.OK)
			spoilPairs(got)
			if whole(body) != s+filler {
				t.Errorf("%s: pairs are pieces of the body", what)
			}
		}
	}
	// What would be a pair, or a whole one, with the spare room is none.
	for _, s := range []string{"", "\x01a\x05v", "\x01a", "\x01", "\x02a", "\x01a\x00\x01b\x01"} {
		room := []byte(s + "\x01z\x00" + strings.Repeat("\x00", 300))
		got, e := table.Unpack(room[:len(s)])
		wantPairs(t, "spare room", got, e, nil, api.ErrFaulty)
	}
}

// Rule 4: bodies that Pack tells are each new memory.
func TestBodiesThatAreAnswered(t *testing.T) {
	for what, l := range tables() {
		bodies, e := table.Pack(pairs(l))
		ok(t, "Pack", e)
		again, e := table.Pack(pairs(l))
		ok(t, "Pack", e)
		for i, body := range bodies {
			if string(body) != packed(l)[i] {
				t.Errorf("%s: the body %d hangs on one ahead of it", what, i)
			}
			spoil(body)
		}
		for i := range bodies[:cap(bodies)] {
			bodies[:cap(bodies)][i] = nil
		}
		for i, body := range again {
			if string(body) != packed(l)[i] {
				t.Errorf("%s: two answers share memory", what)
			}
		}
	}
}

// pieces wants no two parts of pairs to share memory: each is turned, and those behind it, and its value, are as they were.
func pieces(t testing.TB, what string, got []api.Pair, l []item) {
	t.Helper()
	for i := range got {
		spoil(got[i].Key)
		if string(got[i].Value) != l[i].value {
			t.Errorf("%s: a value hangs on its key", what)
		}
		spoil(got[i].Value)
		wantPairs(t, what, got[i+1:], api.OK, l[i+1:], api.OK)
	}
	spoilPairs(got)
}

// Rule 4: pairs, refs and tables that are told are new memory, each time.
func TestWhatIsAnswered(t *testing.T) {
	for what, l := range tables() {
		s := begin(t, 20)
		r, e := table.Build(s.g, pairs(l), 5)
		ok(t, "Build", e)
		spoil(r.First)
		if string(r.Last) != l[len(l)-1].key {
			t.Errorf("%s: Last hangs on First", what)
		}
		spoil(r.Last)
		was := s.look(t)
		bodies, e := table.Pack(pairs(l))
		ok(t, "Pack", e)
		for _, body := range bodies {
			got, e := table.Unpack(body)
			ok(t, "Unpack", e)
			x, _ := parsed(string(body))
			pieces(t, what, got, x)
		}
		for range 2 {
			got, e := table.All(s.g, r)
			ok(t, "All", e)
			pieces(t, what, got, l)
			got, e = table.Between(s.g, r, []byte(l[0].key), nil)
			ok(t, "Between", e)
			pieces(t, what, got, l)
			for i, p := range l {
				x, e := table.Get(s.g, r, []byte(p.key))
				ok(t, "Get", e)
				pieces(t, what, []api.Pair{x}, l[i:i+1])
			}
			blocks, e := table.Blocks(s.g, r)
			ok(t, "Blocks", e)
			for i := range blocks[:cap(blocks)] {
				blocks[:cap(blocks)][i] = ref(-1, -1)
			}
		}
		if s.look(t) != was {
			t.Errorf("%s: what is told is the disk's own memory", what)
		}
		wantAll(t, what, s.g, r, l)
	}
}

// Rule 4: the spare room of answers is empty.
func TestSpareRoomOfAnswers(t *testing.T) {
	empty := func(what string, b []byte) {
		t.Helper()
		if spare := b[len(b):cap(b)]; len(bytes.Trim(spare, "\x00")) != 0 {
			t.Errorf("%s: spare room has %v", what, spare)
		}
	}
	for what, l := range tables() {
		s := begin(t, 20)
		r, e := table.Build(s.g, pairs(l), 5)
		ok(t, "Build", e)
		empty(what+": First", r.First)
		empty(what+": Last", r.Last)
		bodies, _ := table.Pack(pairs(l))
		for _, body := range append(bodies, bodies[len(bodies):cap(bodies)]...) {
			empty(what+": a body", body)
		}
		one, _ := table.Unpack(bodies[0])
		all, _ := table.All(s.g, r)
		some, _ := table.Between(s.g, r, []byte(l[len(l)/2].key), nil)
		got, _ := table.Get(s.g, r, []byte(l[0].key))
		for _, list := range [][]api.Pair{one, all, some, {got}} {
			for _, p := range list {
				empty(what+": a key", p.Key)
				empty(what+": a value", p.Value)
			}
			for _, p := range list[len(list):cap(list)] {
				if p.Key != nil || p.Value != nil || p.Gone {
					t.Errorf("%s: spare room has %v", what, p)
				}
			}
		}
		blocks, _ := table.Blocks(s.g, r)
		for _, b := range blocks[len(blocks):cap(blocks)] {
			if b != (api.Ref{}) {
				t.Errorf("%s: spare room has %v", what, b)
			}
		}
	}
}
