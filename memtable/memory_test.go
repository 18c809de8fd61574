package memtable_test

import (
	"bytes"
	"strings"
	"testing"

	"exchequer/api"
	"exchequer/memtable"
)

// roomy is a copy of bytes with filler behind them, as spare room, and the whole of it.
func roomy(s string) (b, whole []byte) {
	whole = append([]byte(s), bytes.Repeat([]byte{0xcc}, 40)...)
	return whole[:len(s)], whole
}

// spoil turns all bytes of a slice, and those of its spare room.
func spoil(b []byte) {
	b = b[:cap(b)]
	for i := range b {
		b[i] ^= 0xa5
	}
}

// spoilPairs turns all bytes of pairs, and puts others into the list and its spare room.
func spoilPairs(l []api.Pair) {
	for i, p := range l {
		spoil(p.Key)
		spoil(p.Value)
		l[i] = api.Pair{Key: []byte("spoilt"), Gone: !p.Gone}
	}
	for i := range l[:cap(l)] {
		l[:cap(l)][i] = api.Pair{Key: []byte("spoilt")}
	}
}

// untouched wants bytes, and their spare room, to be as roomy made them of a text.
func untouched(t testing.TB, what string, whole []byte, s string) {
	t.Helper()
	if string(whole) != s+strings.Repeat("\xcc", 40) {
		t.Errorf("%s: what was handed in has changed: %q", what, whole)
	}
}

// Rule 4: what is handed in stays as it was, its spare room is neither looked at nor written, and the table does not hang on it.
func TestWhatIsHandedIn(t *testing.T) {
	for _, value := range []string{"", "v", strings.Repeat("v", 128), strings.Repeat("v", 129)} {
		for _, key := range []string{"", "k", strings.Repeat("k", 32), strings.Repeat("k", 33), crowdKey(1), crowdKey(4)} {
			for _, n := range []int{0, 5, 63, 64} {
				m, p := crowd(t, n)
				k, wholeKey := roomy(key)
				v, wholeValue := roomy(value)
				want(t, "Put", m.Put(k, v), p.lay(key, value, false))
				calls(m, k, v)
				want(t, "Check", memtable.Check(api.Pair{Key: k, Value: v}), plain{}.lay(key, value, false))
				untouched(t, "a key", wholeKey, key)
				untouched(t, "a value", wholeValue, value)
				spoil(k)
				spoil(v)
				wantTable(t, "what was put was turned", m, p)

				k, wholeKey = roomy(key)
				want(t, "Remove", m.Remove(k), p.lay(key, "", true))
				untouched(t, "a key", wholeKey, key)
				spoil(k)
				wantTable(t, "what was removed was turned", m, p)
			}
		}
	}
}

// calls does each call that looks at a table.
func calls(m *memtable.Table, a, b []byte) {
	m.Get(a)
	m.Between(a, b)
	m.Between(b, a)
	m.All()
	m.Size()
	m.Clone()
}

// Rule 4: key and value may be one memory, and what was answered may be handed in again.
func TestSharedArguments(t *testing.T) {
	m, p := memtable.New(), plain{}
	both := []byte("both")
	want(t, "Put", m.Put(both, both), p.lay("both", "both", false))
	want(t, "Put", m.Put(both[:2], both[1:]), p.lay("bo", "oth", false))
	spoil(both)
	wantTable(t, "key and value of one memory", m, p)
	for _, got := range m.All() {
		want(t, "Put", m.Put(got.Value, got.Key), p.lay(string(got.Value), string(got.Key), false))
		spoil(got.Key)
		spoil(got.Value)
	}
	wantTable(t, "answers handed in again", m, p)
}

// Rule 4: a list that Sorted is handed stays as it was; its spare room is not looked at.
func TestSortedMemory(t *testing.T) {
	for _, c := range []struct {
		keys []string
		want bool
	}{{[]string{"a", "ab", "b"}, true}, {[]string{"b", "ab", "a"}, false}} {
		l := keyed(append(c.keys, "\x00", "\x00")...)
		wantSorted(t, l[:3], c.want)
		wantPairs(t, "Sorted", l, texts(keyed(append(c.keys, "\x00", "\x00")...)))
	}
}

// Rule 4: what is answered is new memory, each time, its spare room too; two pairs of one answer share none.
func TestWhatIsAnswered(t *testing.T) {
	for _, n := range []int{1, 2, 5, 63, 64} {
		m, p := crowd(t, n)
		clone := m.Clone()
		all, again := m.All(), m.All()
		between := m.Between(nil, []byte("\xff\xff"))
		for i := range all {
			spoil(all[i].Key)
			spoil(all[i].Value)
			wantPairs(t, "pairs behind one that was turned", all[i+1:], p.between("", "")[i+1:])
		}
		spoilPairs(all)
		wantPairs(t, "another answer", again, p.between("", ""))
		wantPairs(t, "another answer", between, p.between("", ""))
		spoilPairs(between)
		for _, key := range p.keys() {
			got, e := m.Get([]byte(key))
			other, _ := m.Get([]byte(key))
			want(t, "Get", e, api.OK)
			spoil(got.Key)
			wantPairs(t, "a pair", []api.Pair{{Key: []byte(key), Value: got.Value, Gone: got.Gone}}, []string{said(key, p[key])})
			spoil(got.Value)
			wantPairs(t, "another answer", []api.Pair{other}, []string{said(key, p[key])})
		}
		wantTable(t, "answers were turned", m, p)
		wantTable(t, "a clone", clone, p)
		turnAll(t, m, p)
		wantPairs(t, "an answer from ahead of a change", again, p.between("", ""))
	}
}

// Rule 4: the spare room of an answer is empty.
func TestSpareRoomOfAnswers(t *testing.T) {
	m, _ := crowd(t, 9)
	for _, l := range [][]api.Pair{m.All(), m.Between([]byte("c"), nil)} {
		for _, p := range l[len(l):cap(l)] {
			if p.Key != nil || p.Value != nil || p.Gone {
				t.Errorf("spare room has %v", p)
			}
		}
		for _, p := range l {
			for _, x := range append(p.Key[len(p.Key):cap(p.Key):cap(p.Key)], p.Value[len(p.Value):cap(p.Value):cap(p.Value)]...) {
				if x != 0 {
					t.Errorf("spare room of %v has %d", p, x)
				}
			}
		}
	}
}
