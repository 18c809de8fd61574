package memtable_test

import (
	"fmt"
	"math/rand"
	"slices"
	"strings"
	"testing"

	"exchequer/api"
	"exchequer/memtable"
)

// orders are lists of numbers below n, in some orders: rising, falling, from the midst outwards, and by chance.
func orders(n int) [][]int {
	rise := make([]int, n)
	for i := range rise {
		rise[i] = i
	}
	fall := slices.Clone(rise)
	slices.Reverse(fall)
	var out []int
	for i := range n {
		out = append(out, n/2+[]int{-1, 1}[i%2]*((i+1)/2))
	}
	for i := range out {
		out[i] = (out[i] + n) % n
	}
	l := [][]int{rise, fall, out}
	chance := rand.New(rand.NewSource(12))
	for range 5 {
		l = append(l, chance.Perm(n))
	}
	return l
}

// P12.2: pairs put in any order are there, each under its key; put again, what came last counts.
func TestPutInAnyOrder(t *testing.T) {
	keys := edgeKeys()
	for _, order := range orders(len(keys)) {
		m, p := memtable.New(), plain{}
		for _, i := range order {
			put(t, m, p, keys[i], fmt.Sprint("first ", i))
			wantTable(t, "Put", m, p)
		}
		for _, i := range order {
			put(t, m, p, keys[i], fmt.Sprint("second ", i))
			wantTable(t, "Put again", m, p)
		}
	}
}

// P12.2: a key that is removed, once or twice, or where there was none, is Gone and has no value; a value that is put behind that is there.
func TestRemove(t *testing.T) {
	keys := edgeKeys()
	for _, order := range orders(len(keys)) {
		m, p := memtable.New(), plain{}
		for at, i := range order {
			if at%2 == 0 {
				put(t, m, p, keys[i], "here")
			}
			remove(t, m, p, keys[i])
			wantTable(t, "Remove", m, p)
			if at%3 == 0 {
				remove(t, m, p, keys[i])
				wantTable(t, "Remove again", m, p)
			}
		}
		for _, i := range order {
			put(t, m, p, keys[i], fmt.Sprint("back ", i))
			wantTable(t, "Put behind a Remove", m, p)
		}
	}
}

// P12.2: of all orders of four keys, each put or removed, nothing but the last call of a key counts.
func TestAllOrdersOfFour(t *testing.T) {
	for code := range 8 * 8 * 8 * 8 {
		m, p := memtable.New(), plain{}
		for i := 1; i <= 8*8*8; i *= 8 {
			key := []string{"a", "a\x00", "b", "\xff"}[code/i%4]
			if code/i%8 < 4 {
				put(t, m, p, key, fmt.Sprint(i))
			} else {
				remove(t, m, p, key)
			}
		}
		wantTable(t, fmt.Sprint("calls ", code), m, p)
	}
}

// P12.2: keys of 1 to 32 bytes and values of at most 128 may be put; keys may be removed likewise; others are refused, and leave the table as it was.
func TestBounds(t *testing.T) {
	for n := range 40 {
		m, p := crowd(t, 3)
		key := strings.Repeat("k", n)
		put(t, m, p, key, "v")
		wantTable(t, "Put", m, p)
		remove(t, m, p, key)
		wantTable(t, "Remove", m, p)
		if m.Size() != 3 && (n == 0 || n > 32) || m.Size() != 4 && n >= 1 && n <= 32 {
			t.Errorf("a key of %d bytes: Size %d", n, m.Size())
		}
	}
	for n := range 140 {
		m, p := crowd(t, 3)
		for _, key := range []string{"k", "kk", crowdKey(0), crowdKey(1)} {
			put(t, m, p, key, strings.Repeat("v", n))
			wantTable(t, "Put", m, p)
		}
		if m.Size() != 5 && n <= 128 || m.Size() != 3 && n > 128 {
			t.Errorf("a value of %d bytes: Size %d", n, m.Size())
		}
	}
	for _, n := range []int{33, 64, 129, 256, 257, 65536, 65537, 1 << 20} {
		m, p := crowd(t, 3)
		want(t, "Put of a long key", m.Put(make([]byte, n), nil), api.ErrArg)
		want(t, "Remove of a long key", m.Remove(make([]byte, n)), api.ErrArg)
		want(t, "Put of a long value", m.Put([]byte(crowdKey(1)), make([]byte, n+128)), api.ErrArg)
		wantTable(t, "refused", m, p)
	}
}

// P12.2: nil and empty are the same: no key, and a value of no bytes, which is not Gone.
func TestNilAndEmpty(t *testing.T) {
	m, p := crowd(t, 3)
	for _, none := range [][]byte{nil, {}, make([]byte, 0, 9)} {
		want(t, "Put of no key", m.Put(none, []byte("1")), api.ErrArg)
		want(t, "Put of nothing", m.Put(none, none), api.ErrArg)
		want(t, "Remove of no key", m.Remove(none), api.ErrArg)
		wantTable(t, "refused", m, p)
		for _, key := range []string{"new", crowdKey(1), crowdKey(4)} {
			p[key] = laid{"", false}
			want(t, "Put of no value", m.Put([]byte(key), none), api.OK)
			wantTable(t, "a value of no bytes", m, p)
			remove(t, m, p, key)
			wantTable(t, "which is Gone then", m, p)
		}
	}
}

// P12.2: 64 pairs are all that a table has: another key is refused, by Put and by Remove, and leaves all as it was; a key that is there is not.
func TestFull(t *testing.T) {
	m, p := crowd(t, 63)
	c, q := crowd(t, 63)
	put(t, m, p, "the last", "1")
	remove(t, c, q, "the last")
	for _, x := range []struct {
		m *memtable.Table
		p plain
	}{{m, p}, {c, q}} {
		if x.m.Size() != 64 {
			t.Fatalf("Size %d", x.m.Size())
		}
		for _, key := range []string{"\x00", "\xff", "n", "the last\x00", "the las", crowdKey(3) + "\x00"} {
			want(t, "Put of one more", x.m.Put([]byte(key), []byte("1")), api.ErrFull)
			want(t, "Remove of one more", x.m.Remove([]byte(key)), api.ErrFull)
			wantTable(t, "full", x.m, x.p)
		}
		for _, key := range x.p.keys() {
			remove(t, x.m, x.p, key)
			want(t, "Put of one more", x.m.Put([]byte("n"), nil), api.ErrFull)
			wantTable(t, "Remove where it is full", x.m, x.p)
			put(t, x.m, x.p, key, "again")
			wantTable(t, "Put where it is full", x.m, x.p)
		}
	}
}

// P12.2: what may not be comes ahead of that there is no room.
func TestOrderOfErrors(t *testing.T) {
	m, p := crowd(t, 64)
	want(t, "Put of no key", m.Put(nil, nil), api.ErrArg)
	want(t, "Put of a long key", m.Put(make([]byte, 33), nil), api.ErrArg)
	want(t, "Put of a long value", m.Put([]byte("n"), make([]byte, 129)), api.ErrArg)
	want(t, "Put of a long value under a key that is there", m.Put([]byte(crowdKey(1)), make([]byte, 129)), api.ErrArg)
	want(t, "Remove of no key", m.Remove(nil), api.ErrArg)
	want(t, "Remove of a long key", m.Remove(make([]byte, 33)), api.ErrArg)
	want(t, "Put", m.Put([]byte("n"), make([]byte, 128)), api.ErrFull)
	want(t, "Remove", m.Remove(make([]byte, 32)), api.ErrFull)
	wantTable(t, "refused", m, p)
}

// Rule 3: a Put that was refused leaves room for as many as before.
func TestRefusedTakesNoRoom(t *testing.T) {
	m, p := memtable.New(), plain{}
	for i := range 64 {
		m.Put(nil, nil)
		m.Put([]byte("k"), make([]byte, 129))
		m.Remove(make([]byte, 33))
		put(t, m, p, crowdKey(i), "v")
	}
	wantTable(t, "64 pairs", m, p)
}
