package memtable_test

import (
	"bytes"
	"fmt"
	"math/rand"
	"slices"
	"sort"
	"strings"
	"testing"

	"exchequer/api"
	"exchequer/memtable"
)

// laid is what stands under a key.
type laid struct {
	value string
	gone  bool
}

// plain is a table by the chapter's words: a plain map from keys to what came last under them.
type plain map[string]laid

// keys are the keys of all pairs, in order.
func (p plain) keys() []string {
	var l []string
	for key := range p {
		l = append(l, key)
	}
	sort.Strings(l)
	return l
}

// lay does what Put and Remove must do.
func (p plain) lay(key, value string, gone bool) api.Errno {
	if len(key) == 0 || len(key) > 32 || len(value) > 128 {
		return api.ErrArg
	}
	if _, there := p[key]; !there && len(p) == 64 {
		return api.ErrFull
	}
	p[key] = laid{value, gone}
	return api.OK
}

// between are the pairs whose keys are from on and below to, by their text.
func (p plain) between(from, to string) []string {
	var l []string
	for _, key := range p.keys() {
		if key >= from && (to == "" || key < to) {
			l = append(l, said(key, p[key]))
		}
	}
	return l
}

// said is a pair's text, by which two pairs are told apart.
func said(key string, l laid) string {
	if l.gone {
		return fmt.Sprintf("%q gone %q", key, l.value)
	}
	return fmt.Sprintf("%q %q", key, l.value)
}

// texts are the texts of pairs.
func texts(l []api.Pair) []string {
	var s []string
	for _, p := range l {
		s = append(s, said(string(p.Key), laid{string(p.Value), p.Gone}))
	}
	return s
}

func want(t testing.TB, what string, got, want api.Errno) {
	t.Helper()
	if got != want {
		t.Errorf("%s: %v, want %v", what, got, want)
	}
}

// wantPairs wants just these pairs, in this order.
func wantPairs(t testing.TB, what string, got []api.Pair, want []string) {
	t.Helper()
	if !slices.Equal(texts(got), want) {
		t.Errorf("%s: %v, want %v", what, texts(got), want)
	}
}

// wantGet wants Get to tell what stands under a key, or that nothing does.
func wantGet(t testing.TB, what string, m *memtable.Table, p plain, key string) {
	t.Helper()
	got, e := m.Get([]byte(key))
	l, there := p[key]
	if !there {
		if e != api.ErrMissing || got.Key != nil || got.Value != nil || got.Gone {
			t.Errorf("%s: Get(%q): %v, %v, want ErrMissing alone", what, key, got, e)
		}
		return
	}
	if e != api.OK || string(got.Key) != key || string(got.Value) != l.value || got.Gone != l.gone {
		t.Errorf("%s: Get(%q): %v, %v, want %s", what, key, texts([]api.Pair{got}), e, said(key, l))
	}
}

// wantTable wants all that can be told of a table to be as of the plain one.
func wantTable(t testing.TB, what string, m *memtable.Table, p plain) {
	t.Helper()
	if m.Size() != len(p) {
		t.Errorf("%s: Size %d, want %d", what, m.Size(), len(p))
	}
	all := m.All()
	wantPairs(t, what+": All", all, p.between("", ""))
	if !memtable.Sorted(all) {
		t.Errorf("%s: All is not sorted: %v", what, texts(all))
	}
	for key := range p {
		wantGet(t, what, m, p, key)
		wantGet(t, what, m, p, key+"\x00")
		wantGet(t, what, m, p, key[:len(key)-1])
	}
}

// put lays a value in both.
func put(t testing.TB, m *memtable.Table, p plain, key, value string) {
	t.Helper()
	want(t, fmt.Sprintf("Put(%q, %q)", key, value), m.Put([]byte(key), []byte(value)), p.lay(key, value, false))
}

// remove lays a mark in both.
func remove(t testing.TB, m *memtable.Table, p plain, key string) {
	t.Helper()
	want(t, fmt.Sprintf("Remove(%q)", key), m.Remove([]byte(key)), p.lay(key, "", true))
}

// crowd is a table of so many pairs, every fifth of which is Gone, put in any order, and the plain one; its keys are those of crowdKey.
func crowd(t testing.TB, n int) (*memtable.Table, plain) {
	t.Helper()
	m, p := memtable.New(), plain{}
	for _, i := range rand.New(rand.NewSource(int64(n))).Perm(n) {
		if i%5 == 4 {
			remove(t, m, p, crowdKey(i))
		} else {
			put(t, m, p, crowdKey(i), fmt.Sprint("value ", i))
		}
	}
	return m, p
}

// crowdKey is the key of a number, of 1 to 32 bytes; they do not rise with it.
func crowdKey(i int) string {
	return strings.Repeat(string(rune('a'+i*7%26)), 1+i*11%31) + string([]byte{byte(i * 37)})[:1]
}

// edgeKeys are keys that may be, in order: the lowest and the highest ones, keys that are another one's beginning, of bytes 0 and 255, of the fewest and the most bytes.
func edgeKeys() []string {
	return []string{
		"\x00", "\x00\x00", strings.Repeat("\x00", 31), strings.Repeat("\x00", 32), "\x00\x01", "\x00\xff", "\x01", "\x01\x00",
		"A", "a", "a\x00", "a\x00\x00", "aa", "aaa", "ab", "a\x7f", "a\x80", "a\xff", "b", strings.Repeat("b", 31), strings.Repeat("b", 32), "b\xff",
		"\x7f", "\x80", "\xfe", "\xfe\xff", "\xff", "\xff\x00", "\xff\xfe", "\xff\xff", strings.Repeat("\xff", 31), strings.Repeat("\xff", 32),
	}
}

// The edge keys are in order, byte by byte, and none is there twice: the tests lean on it.
func TestEdgeKeys(t *testing.T) {
	l := edgeKeys()
	for i := 1; i < len(l); i++ {
		if l[i-1] >= l[i] {
			t.Errorf("%q is not ahead of %q", l[i-1], l[i])
		}
	}
	_, p := crowd(t, 64)
	if len(p) != 64 {
		t.Errorf("a crowd of 64 has %d keys", len(p))
	}
}

// P12.1: which pairs may be, at each number of bytes about the bounds.
func TestCheck(t *testing.T) {
	for _, gone := range []bool{false, true} {
		for key := range 40 {
			for _, value := range []int{0, 1, 2, 64, 127, 128, 129, 130, 255, 256, 257, 1024} {
				e := api.OK
				if key < 1 || key > 32 || value > 128 || gone && value > 0 {
					e = api.ErrArg
				}
				p := api.Pair{Key: make([]byte, key), Value: make([]byte, value), Gone: gone}
				want(t, fmt.Sprint("Check of ", key, value, gone), memtable.Check(p), e)
			}
		}
	}
	for _, n := range []int{33, 64, 256, 257, 256 + 32, 65536, 65537, 1 << 20} {
		want(t, "Check of a long key", memtable.Check(api.Pair{Key: make([]byte, n)}), api.ErrArg)
		want(t, "Check of a long value", memtable.Check(api.Pair{Key: []byte("a"), Value: make([]byte, n+128)}), api.ErrArg)
		want(t, "Check of a long value that is Gone", memtable.Check(api.Pair{Key: []byte("a"), Value: make([]byte, n), Gone: true}), api.ErrArg)
	}
}

// P12.1: nil and empty are the same; what bytes stand there does not count; spare room is no part of a pair.
func TestCheckOfNilAndSpareRoom(t *testing.T) {
	a := []byte("a")
	for _, c := range []struct {
		p api.Pair
		e api.Errno
	}{
		{api.Pair{}, api.ErrArg},
		{api.Pair{Gone: true}, api.ErrArg},
		{api.Pair{Value: a}, api.ErrArg},
		{api.Pair{Key: []byte{}, Value: a}, api.ErrArg},
		{api.Pair{Key: a}, api.OK},
		{api.Pair{Key: a, Value: []byte{}}, api.OK},
		{api.Pair{Key: a, Gone: true}, api.OK},
		{api.Pair{Key: a, Value: []byte{}, Gone: true}, api.OK},
		{api.Pair{Key: a, Value: []byte{0}, Gone: true}, api.ErrArg},
		{api.Pair{Key: make([]byte, 32, 99), Value: make([]byte, 128, 999)}, api.OK},
		{api.Pair{Key: a, Value: make([]byte, 0, 9), Gone: true}, api.OK},
		{api.Pair{Key: make([]byte, 0, 9)}, api.ErrArg},
	} {
		want(t, fmt.Sprint("Check of ", c.p), memtable.Check(c.p), c.e)
	}
	for _, key := range edgeKeys() {
		want(t, "Check", memtable.Check(api.Pair{Key: []byte(key), Value: []byte(key)}), api.OK)
		want(t, "Check of one that is Gone", memtable.Check(api.Pair{Key: []byte(key), Gone: true}), api.OK)
	}
}

// keyed are pairs of these keys.
func keyed(keys ...string) []api.Pair {
	var l []api.Pair
	for i, key := range keys {
		l = append(l, api.Pair{Key: []byte(key), Value: []byte(fmt.Sprint(99 - i)), Gone: i%3 == 1})
	}
	return l
}

func wantSorted(t testing.TB, l []api.Pair, want bool) {
	t.Helper()
	if got := memtable.Sorted(l); got != want {
		t.Errorf("Sorted of %v: %v", texts(l), got)
	}
}

// P12.1: lists of no pair, of one, rising, falling, of two pairs of one key.
func TestSorted(t *testing.T) {
	wantSorted(t, nil, true)
	wantSorted(t, []api.Pair{}, true)
	for _, c := range []struct {
		keys string
		want bool
	}{
		{"a", true}, {"a b", true}, {"b a", false}, {"a a", false}, {"a ab b", true}, {"a b ab", false}, {"ab a", false}, {"a aa aaa", true},
		{"a b c d", true}, {"b a c d", false}, {"a c b d", false}, {"a b d c", false}, {"a a b c", false}, {"a b b c", false}, {"a b c c", false},
		{"a b c a", false}, {"A a", true}, {"a A", false}, {"a \x80 \xff", true}, {"\xff a", false}, {"a \xff\x00 \xff", false},
	} {
		wantSorted(t, keyed(strings.Split(c.keys, " ")...), c.want)
	}
}

// P12.1: all lists of up to three of the edge keys.
func TestSortedOfEdgeKeys(t *testing.T) {
	keys := edgeKeys()
	for i, a := range keys {
		wantSorted(t, keyed(a), true)
		for j, b := range keys {
			wantSorted(t, keyed(a, b), i < j)
			for k, c := range keys {
				wantSorted(t, keyed(a, b, c), i < j && j < k)
			}
		}
	}
	wantSorted(t, keyed(keys...), true)
	slices.Reverse(keys)
	wantSorted(t, keyed(keys...), false)
}

// P12.1: whether pairs may be does not count: keys of no bytes, of too many, values beyond the bound, and more pairs than a table has.
func TestSortedOfPairsThatMayNotBe(t *testing.T) {
	long := strings.Repeat("x", 4000)
	wantSorted(t, []api.Pair{{}}, true)
	wantSorted(t, []api.Pair{{}, {}}, false)
	wantSorted(t, []api.Pair{{Key: []byte{}}, {}}, false)
	wantSorted(t, []api.Pair{{}, {Key: []byte{}}}, false)
	wantSorted(t, []api.Pair{{}, {Key: []byte{0}, Value: make([]byte, 999), Gone: true}}, true)
	wantSorted(t, []api.Pair{{Key: []byte{0}}, {}}, false)
	wantSorted(t, keyed("", "a", long, long+"\x00"), true)
	wantSorted(t, keyed("", "a", long+"\x00", long), false)
	wantSorted(t, keyed(long+"a", long+"b"), true)
	wantSorted(t, keyed(long+"b", long+"a"), false)
	var many []api.Pair
	for i := range 3000 {
		many = append(many, api.Pair{Key: []byte(fmt.Sprintf("%05d", i))})
	}
	wantSorted(t, many, true)
	for _, at := range []int{0, 1, 63, 64, 65, 1500, 2998} {
		wrong := slices.Clone(many)
		wrong[at] = many[at+1]
		wantSorted(t, wrong, false)
		wrong[at+1] = many[at]
		wantSorted(t, wrong, false)
	}
}

// P12.1: New makes a table without pairs, each of its own.
func TestNew(t *testing.T) {
	a, b := memtable.New(), memtable.New()
	if a == nil || b == nil || a == b {
		t.Fatal("New makes none, or one twice")
	}
	p := plain{}
	wantTable(t, "New", a, p)
	wantGet(t, "New", a, p, "a")
	put(t, a, p, "a", "1")
	wantTable(t, "a table beside another one", b, plain{})
	wantTable(t, "a third one", memtable.New(), plain{})
	wantTable(t, "put", a, p)
}

// P12.1: Size counts all pairs, those that are Gone, too, each once.
func TestSize(t *testing.T) {
	m, p := memtable.New(), plain{}
	for i := range 64 {
		if m.Size() != i {
			t.Errorf("Size %d, want %d", m.Size(), i)
		}
		key := crowdKey(i)
		if i%2 == 0 {
			put(t, m, p, key, "1")
			put(t, m, p, key, "2")
		} else {
			remove(t, m, p, key)
			remove(t, m, p, key)
		}
	}
	for i := range 64 {
		remove(t, m, p, crowdKey(i))
	}
	if m.Size() != 64 {
		t.Errorf("Size %d of a table whose pairs are all Gone", m.Size())
	}
	wantTable(t, "all Gone", m, p)
}

// P12.1: a clone is the same, and a table of its own: what is done to either is not seen at the other one.
func TestClone(t *testing.T) {
	for _, n := range []int{0, 1, 2, 3, 7, 8, 9, 31, 32, 33, 62, 63, 64} {
		m, p := crowd(t, n)
		c := m.Clone()
		if c == nil || c == m {
			t.Fatal("a clone is none, or the table itself")
		}
		wantTable(t, "a clone", c, p)
		turned := turnAll(t, c, p)
		wantTable(t, "what was cloned", m, p)
		wantTable(t, "a clone that was changed", c, turned)

		c = m.Clone()
		again := c.Clone()
		turned = turnAll(t, m, p)
		wantTable(t, "a clone of what was changed since", c, p)
		wantTable(t, "what was changed", m, turned)
		turnAll(t, c, p)
		wantTable(t, "a clone of a clone", again, p)
	}
}

// turnAll changes what stands under each key, and adds what there is room for ahead of them, between and behind; it answers what must be there then.
func turnAll(t testing.TB, m *memtable.Table, was plain) plain {
	t.Helper()
	p := plain{}
	for key, l := range was {
		p[key] = l
	}
	for _, key := range was.keys() {
		if was[key].gone {
			put(t, m, p, key, "turned")
		} else {
			remove(t, m, p, key)
		}
	}
	for _, key := range append([]string{"\x00", "\xff"}, was.keys()...) {
		put(t, m, p, key[:min(len(key), 31)]+"\x00", "added")
	}
	return p
}

// The chapter's examples.
func TestExamples(t *testing.T) {
	m := memtable.New()
	a, b, c, d := []byte("a"), []byte("b"), []byte("c"), []byte("d")
	want(t, "Put(b, 1)", m.Put(b, []byte("1")), api.OK)
	want(t, "Put(a, 2)", m.Put(a, []byte("2")), api.OK)
	want(t, "Remove(c)", m.Remove(c), api.OK)
	wantPairs(t, "All", m.All(), []string{`"a" "2"`, `"b" "1"`, `"c" gone ""`})

	if p, e := m.Get(c); e != api.OK || string(p.Key) != "c" || len(p.Value) != 0 || !p.Gone {
		t.Errorf("Get(c): %v, %v", p, e)
	}
	if p, e := m.Get(d); e != api.ErrMissing || p.Key != nil || p.Value != nil || p.Gone {
		t.Errorf("Get(d): %v, %v", p, e)
	}
	want(t, "Put(b, 3)", m.Put(b, []byte("3")), api.OK)
	if p, e := m.Get(b); e != api.OK || string(p.Key) != "b" || string(p.Value) != "3" || p.Gone {
		t.Errorf("Get(b): %v, %v", p, e)
	}

	wantPairs(t, "Between(a, c)", m.Between(a, c), []string{`"a" "2"`, `"b" "3"`})
	wantPairs(t, "Between(b, none)", m.Between(b, nil), []string{`"b" "3"`, `"c" gone ""`})
	wantPairs(t, "Between(c, a)", m.Between(c, a), nil)

	want(t, "Put(none, 1)", m.Put(nil, []byte("1")), api.ErrArg)
	want(t, "Put(33 bytes, 1)", m.Put(bytes.Repeat(a, 33), []byte("1")), api.ErrArg)
	want(t, "Put(a, 129 bytes)", m.Put(a, make([]byte, 129)), api.ErrArg)

	wantSorted(t, keyed("a", "ab", "b"), true)
	wantSorted(t, keyed("b", "a"), false)
	wantSorted(t, keyed("a", "a"), false)
}
