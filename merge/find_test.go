package merge_test

import (
	"fmt"
	"maps"
	"slices"
	"strings"
	"testing"

	"exchequer/api"
	"exchequer/merge"
)

// first is the first item of a key that stands in lists, gone through from the front, one behind the other, and whether there is one.
func first(all [][]item, key string) (item, bool) {
	for _, l := range all {
		for _, i := range l {
			if i.key == key {
				return i, true
			}
		}
	}
	return item{}, false
}

// wantFind wants these keys to be found in lists just as the first pair of each is there, or not.
func wantFind(t testing.TB, what string, all [][]item, keys ...string) {
	t.Helper()
	made := lists(all)
	for _, key := range keys {
		want, is := first(all, key)
		got, there := merge.Find(made, []byte(key))
		if there != is || items([]api.Pair{got})[0] != want {
			t.Errorf("%s: Find of %.40q: %v, %s, want %v, %s", what, key, there, text(items([]api.Pair{got})), is, text([]item{want}))
		}
		if !there && (got.Key != nil || got.Value != nil) {
			t.Errorf("%s: Find of %.40q: nothing, and a pair beside it", what, key)
		}
	}
}

// wantFindAll wants each key of lists to be found, and those beside it to be, or not.
func wantFindAll(t testing.TB, what string, all [][]item) {
	t.Helper()
	keys := map[string]bool{"": true, "\x00": true, "\xff": true}
	for _, i := range slices.Concat(all...) {
		for _, key := range []string{i.key, i.key + "\x00", i.key + "\xff"} {
			keys[key] = true
		}
		if i.key != "" {
			keys[i.key[:len(i.key)-1]] = true
			keys[i.key[:len(i.key)-1]+"\x00"] = true
			keys[i.key[1:]] = true
		}
	}
	wantFind(t, what, all, slices.Sorted(maps.Keys(keys))...)
}

// P14.2: Find in lists that are sorted, of up to many pairs, that share no key, some or all.
func TestFind(t *testing.T) {
	for _, n := range []int{1, 2, 3, 32} {
		for _, size := range []int{0, 1, 2, 3, 4, 5, 20} {
			for _, apart := range []int{0, 1, 2, 5, 20} {
				var all [][]item
				for i := range n {
					all = append(all, stretch((n-i)*apart, 1+i%3, size, i, 3))
				}
				wantFindAll(t, fmt.Sprint(n, " lists of ", size), all)
			}
		}
	}
	many := [][]item{nil, stretch(0, 2, 300, 1, 3), nil, stretch(0, 3, 300, 2, 2)}
	wantFindAll(t, "many", many)
}

// P14.2: of a key that several lists have the newest one's pair is told, which may be Gone.
func TestFindTheNewest(t *testing.T) {
	for newest := range 32 {
		for _, gone := range []bool{false, true} {
			all := make([][]item, 32)
			for i := range all {
				all[i] = stretch(i, 1, 3, i, 0)
				if i >= newest {
					x := item{key: "z", value: fmt.Sprint("of ", i)}
					if gone == (i == newest) {
						x.value, x.gone = "", true
					}
					all[i] = append(all[i], x)
				}
			}
			wantFind(t, fmt.Sprint("the newest is ", newest), all, "z")
			if p, there := merge.Find(lists(all), []byte("z")); !there || p.Gone != gone || !gone && string(p.Value) != fmt.Sprint("of ", newest) {
				t.Errorf("the newest is %d: %v, %v", newest, p, there)
			}
		}
	}
}

// P14.2: in no list, and in lists without pairs, nothing is found.
func TestFindInNothing(t *testing.T) {
	for _, key := range [][]byte{nil, {}, []byte("a"), []byte(strings.Repeat("k", 33))} {
		for _, none := range [][][]api.Pair{nil, {}, {nil}, {{}}, make([][]api.Pair, 32), make([][]api.Pair, 100)} {
			if p, there := merge.Find(none, key); there || p.Key != nil || p.Value != nil || p.Gone {
				t.Errorf("Find of %q in nothing: %v, %v", key, p, there)
			}
		}
	}
}

// P14.2: lists that are not sorted are gone through from the front: each key is found, and of one that stands twice in a list the first pair.
func TestFindInListsThatAreNotSorted(t *testing.T) {
	for what, l := range notSorted() {
		wantFindAll(t, what, [][]item{l})
		wantFindAll(t, what+", behind another one", [][]item{said("a9 c9"), l})
		wantFindAll(t, what+", ahead of another one", [][]item{l, said("a9 c9")})
	}
	fall := stretch(0, 1, 100, 0, 3)
	slices.Reverse(fall)
	wantFindAll(t, "many that fall", [][]item{fall, stretch(0, 1, 120, 1, 2)})
	for _, c := range []struct {
		what, key string
		all       [][]item
		want      item
	}{
		{"a value, then another one", "b", [][]item{said("a1 b1 b2")}, item{key: "b", value: "1"}},
		{"Gone, then a value", "b", [][]item{said("b- b2 c3")}, item{key: "b", gone: true}},
		{"a value, then Gone", "b", [][]item{said("b2 a1 b-")}, item{key: "b", value: "2"}},
		{"three times", "b", [][]item{said("a1 b1 b2 b3 c1")}, item{key: "b", value: "1"}},
		{"twice in each", "b", [][]item{said("d1 c1"), said("b3 b4"), said("b5 b6")}, item{key: "b", value: "3"}},
		{"the least one at the end", "a", [][]item{said("d1 c1 b1 a1")}, item{key: "a", value: "1"}},
		{"the greatest one at the front", "d", [][]item{said("d1 a1 b1 c1")}, item{key: "d", value: "1"}},
	} {
		wantFind(t, c.what, c.all, c.key)
		p, there := merge.Find(lists(c.all), []byte(c.key))
		wantItems(t, c.what, []api.Pair{p}, []item{c.want})
		if !there {
			t.Errorf("%s: not there", c.what)
		}
	}
}

// P14.2: keys without bytes, and of more than a table's may have, are looked for like all others; nil and empty are the same.
func TestFindOfOddKeys(t *testing.T) {
	wantFindAll(t, "odd pairs", [][]item{odd()})
	wantFindAll(t, "odd pairs, behind others", [][]item{said("a9 b-"), odd(), said("c1")})
	for _, has := range [][]byte{nil, {}, make([]byte, 0, 9)} {
		all := [][]api.Pair{{{Key: []byte("a")}}, {{Key: has, Value: []byte("1")}}, {{Value: []byte("2")}}}
		for _, key := range [][]byte{nil, {}, make([]byte, 0, 9)} {
			if p, there := merge.Find(all, key); !there || len(p.Key) != 0 || string(p.Value) != "1" || p.Gone {
				t.Errorf("no key: %v, %v", p, there)
			}
			if p, there := merge.Find(all[:1], key); there || p.Key != nil {
				t.Errorf("no key, where there is none: %v, %v", p, there)
			}
		}
	}
}

// P14.2: Find looks through more lists, and more pairs, than are merged at once.
func TestFindInMuch(t *testing.T) {
	var all [][]item
	for i := range 100 {
		all = append(all, stretch(i*100, 1, 100, i, 3))
	}
	var keys []string
	for i := 0; i <= 10000; i += 37 {
		keys = append(keys, numbered(i))
	}
	wantFind(t, "100 lists of 100", all, keys...)
	one := [][]item{stretch(0, 1, 5000, 0, 3)}
	wantFind(t, "one of 5,000", one, numbered(0), numbered(1), numbered(4095), numbered(4096), numbered(4097), numbered(4999), numbered(5000))
}
