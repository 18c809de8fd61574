package memtable_test

import (
	"fmt"
	"strings"
	"testing"

	"exchequer/api"
	"exchequer/memtable"
)

// sparse is a table of every other one of the edge keys, a third of which are Gone.
func sparse(t testing.TB) (*memtable.Table, plain) {
	t.Helper()
	m, p := memtable.New(), plain{}
	for i, key := range edgeKeys() {
		switch {
		case i%2 == 0:
		case i%3 == 0:
			remove(t, m, p, key)
		default:
			put(t, m, p, key, fmt.Sprint(i))
		}
	}
	return m, p
}

// strange are keys that no pair may have.
func strange() []string {
	return []string{"", strings.Repeat("\x00", 33), strings.Repeat("b", 33), strings.Repeat("\xff", 33), strings.Repeat("a", 4000)}
}

// P12.3: Get of keys that are there, that are Gone, that are not there, beginnings and endings of them, and keys of no bytes or too many.
func TestGet(t *testing.T) {
	m, p := sparse(t)
	for _, key := range append(strange(), edgeKeys()...) {
		wantGet(t, "Get", m, p, key)
		wantGet(t, "Get", m, p, key+"\x00")
		wantGet(t, "Get", m, p, key+"\xff")
	}
	wantTable(t, "Get", m, p)
	for _, key := range [][]byte{nil, {}, make([]byte, 0, 9)} {
		if got, e := m.Get(key); e != api.ErrMissing || got.Key != nil || got.Value != nil || got.Gone {
			t.Errorf("Get of no key: %v, %v", got, e)
		}
	}
}

// P12.3: Get in tables of no, of one, of a few and of 64 pairs.
func TestGetInTablesOfAllSizes(t *testing.T) {
	for n := range 65 {
		m, p := crowd(t, n)
		wantTable(t, fmt.Sprint(n, " pairs"), m, p)
		for i := range 64 {
			wantGet(t, fmt.Sprint(n, " pairs"), m, p, crowdKey(i))
		}
		wantGet(t, "no key", m, p, "")
		wantGet(t, "the lowest", m, p, "\x00")
		wantGet(t, "the highest", m, p, strings.Repeat("\xff", 32))
	}
}

// wantBetween wants what is between two keys, both as bytes, to be as of the plain one.
func wantBetween(t testing.TB, m *memtable.Table, p plain, from, to string) {
	t.Helper()
	wantPairs(t, fmt.Sprintf("Between(%q, %q)", from, to), m.Between([]byte(from), []byte(to)), p.between(from, to))
}

// P12.3: Between of all two of the edge keys, those that are there and those that are not, from behind to, the same as to, and without either; and of keys that no pair may have.
func TestBetween(t *testing.T) {
	m, p := sparse(t)
	keys := append(strange(), edgeKeys()...)
	for _, from := range keys {
		for _, to := range keys {
			wantBetween(t, m, p, from, to)
		}
	}
	wantTable(t, "Between", m, p)
}

// P12.3: the edges of Between, told one by one.
func TestEdgesOfBetween(t *testing.T) {
	m, p := memtable.New(), plain{}
	put(t, m, p, "b", "1")
	remove(t, m, p, "bb")
	put(t, m, p, "d", "3")
	b, bb, d := `"b" "1"`, `"bb" gone ""`, `"d" "3"`
	for _, c := range []struct {
		from, to string
		want     []string
	}{
		{"", "", []string{b, bb, d}}, {"a", "", []string{b, bb, d}}, {"b", "", []string{b, bb, d}}, {"b\x00", "", []string{bb, d}}, {"bb", "", []string{bb, d}},
		{"c", "", []string{d}}, {"d", "", []string{d}}, {"d\x00", "", nil}, {"e", "", nil},
		{"", "a", nil}, {"", "b", nil}, {"", "b\x00", []string{b}}, {"", "bb", []string{b}}, {"", "c", []string{b, bb}}, {"", "d", []string{b, bb}}, {"", "d\x00", []string{b, bb, d}}, {"", "e", []string{b, bb, d}},
		{"b", "b", nil}, {"c", "c", nil}, {"b", "d", []string{b, bb}}, {"b", "bb", []string{b}}, {"bb", "d", []string{bb}}, {"a", "e", []string{b, bb, d}}, {"bb", "bb\x00", []string{bb}},
		{"d", "b", nil}, {"e", "a", nil}, {"d", "bb", nil}, {"bb", "b", nil},
		{"b", strings.Repeat("b", 33), []string{b, bb}}, {strings.Repeat("b", 33), "", []string{d}}, {"", strings.Repeat("b", 33), []string{b, bb}},
	} {
		wantPairs(t, fmt.Sprintf("Between(%q, %q)", c.from, c.to), m.Between([]byte(c.from), []byte(c.to)), c.want)
	}
	wantPairs(t, "Between(nil, nil)", m.Between(nil, nil), []string{b, bb, d})
	wantPairs(t, "Between(nil, d)", m.Between(nil, []byte("d")), []string{b, bb})
	wantPairs(t, "Between(bb, nil)", m.Between([]byte("bb"), nil), []string{bb, d})
	wantPairs(t, "Between(empty, spare)", m.Between([]byte{}, make([]byte, 0, 9)), []string{b, bb, d})
}

// P12.3: All and Between of tables of no, of one, of a few and of 64 pairs: nothing of none.
func TestAllAndBetweenOfAllSizes(t *testing.T) {
	for n := range 65 {
		m, p := crowd(t, n)
		wantPairs(t, "All", m.All(), p.between("", ""))
		keys := p.keys()
		for i := 0; i < len(keys); i += 1 + n/8 {
			wantBetween(t, m, p, keys[i], "")
			wantBetween(t, m, p, "", keys[i])
			for j := 0; j < len(keys); j += 1 + n/8 {
				wantBetween(t, m, p, keys[i], keys[j])
				wantBetween(t, m, p, keys[i]+"\x00", keys[j]+"\x00")
			}
		}
	}
	if m := memtable.New(); len(m.All()) != 0 || len(m.Between(nil, nil)) != 0 || len(m.Between([]byte("a"), []byte("b"))) != 0 {
		t.Error("a table without pairs tells some")
	}
}

// P12.5: what is between two keys is what is between the first and a third one, and between that and the second, for any three of the edge keys that rise, whether they are there or not.
func TestBetweenIsCutAnywhere(t *testing.T) {
	few, _ := sparse(t)
	some, _ := crowd(t, 9)
	full, _ := crowd(t, 64)
	keys := edgeKeys()
	for _, m := range []*memtable.Table{memtable.New(), few, some, full} {
		for i, a := range keys {
			for j, b := range keys[i:] {
				for _, c := range keys[i+j:] {
					wantCut(t, m, a, b, c)
				}
				wantCut(t, m, a, b, "")
				wantCut(t, m, "", a, b)
			}
			wantCut(t, m, "", a, "")
		}
	}
}

// wantCut wants what is between a and c to be what is between a and b, and between b and c.
func wantCut(t testing.TB, m *memtable.Table, a, b, c string) {
	t.Helper()
	whole := texts(m.Between([]byte(a), []byte(c)))
	parts := append(m.Between([]byte(a), []byte(b)), m.Between([]byte(b), []byte(c))...)
	wantPairs(t, fmt.Sprintf("between %q, %q and %q", a, b, c), parts, whole)
}
