package table_test

import (
	"fmt"
	"math"
	"slices"
	"strings"
	"testing"

	"exchequer/api"
	"exchequer/table"
)

// indexOf is an index block of a root with these keys, that names the data blocks 1, 2, .. of the stamp 5.
func indexOf(root api.Ref, refs int, keys ...string) api.GridBlock {
	b := api.GridBlock{Kind: 2, Ref: root}
	for i := range refs {
		b.Refs = append(b.Refs, ref(1+i, 5))
	}
	for _, key := range keys {
		b.Body = append(b.Body, counted(key)...)
	}
	return b
}

// dataOf is a data block of such a body.
func dataOf(r api.Ref, body string) api.GridBlock {
	return api.GridBlock{Kind: 1, Ref: r, Body: []byte(body)}
}

// letters are so many keys that rise.
func letters(n int) []string {
	var l []string
	for i := range n {
		l = append(l, string(rune('a'+i)))
	}
	return l
}

// shelf is a scene whose blocks 1 to 17 are data blocks of one pair each, of the keys a, b, ..
func shelf(t testing.TB) *scene {
	t.Helper()
	s := begin(t, 24)
	for i, key := range letters(17) {
		s.lay(t, dataOf(ref(i+1, 5), item{key: key, value: "of " + key}.bytes()))
	}
	return s
}

// P13.3: index blocks, sealed rightly, that are not as said: each call tells ErrFaulty; nothing is wanted, as the block is there, and nothing is let go.
func TestWrongIndexBlocks(t *testing.T) {
	root := ref(20, 7)
	wrong := map[string]api.GridBlock{
		"without Refs and keys":       indexOf(root, 0),
		"without Refs":                indexOf(root, 0, "a"),
		"without keys":                indexOf(root, 1),
		"fewer keys than Refs":        indexOf(root, 2, "a"),
		"more keys than Refs":         indexOf(root, 1, "a", "b"),
		"15 keys, 16 Refs":            indexOf(root, 16, letters(15)...),
		"17 keys, 16 Refs":            indexOf(root, 16, letters(17)...),
		"16 keys, 15 Refs":            indexOf(root, 15, letters(16)...),
		"a key of no bytes":           indexOf(root, 1, ""),
		"a key of no bytes, first":    indexOf(root, 2, "", "a"),
		"a key of no bytes, last":     indexOf(root, 2, "a", ""),
		"a key of 33 bytes":           indexOf(root, 1, strings.Repeat("a", 33)),
		"a key of 255 bytes":          indexOf(root, 1, strings.Repeat("a", 255)),
		"keys that fall":              indexOf(root, 2, "b", "a"),
		"keys that fall at the end":   indexOf(root, 4, "a", "b", "d", "c"),
		"keys that fall at the front": indexOf(root, 4, "b", "a", "c", "d"),
		"one key twice":               indexOf(root, 2, "a", "a"),
		"a key behind its ending":     indexOf(root, 2, "ab", "a"),
	}
	more := indexOf(root, 2, "a", "b")
	more.Body = append(more.Body, 0)
	wrong["a nought behind the keys"] = more
	more.Body = append(more.Body[:4:4], 1)
	wrong["a count behind the keys"] = more
	for cut := range 5 {
		b := indexOf(root, 2, "a", "bcd")
		b.Body = b.Body[:1+cut]
		wrong[fmt.Sprint("cut off at ", 1+cut)] = b
	}
	for kind := 1; kind <= 15; kind++ {
		b := indexOf(root, 2, "a", "b")
		if b.Kind = kind; kind != 2 {
			wrong[fmt.Sprint("of the kind ", kind)] = b
		}
	}
	pairs := indexOf(root, 1)
	pairs.Kind, pairs.Body = 2, []byte(item{key: "a", value: "1"}.bytes())
	wrong["with a data block's body"] = pairs
	for what, b := range wrong {
		s := shelf(t)
		s.lay(t, b)
		was := s.look(t)
		refuseAllCalls(t, what, s.g, api.Run{Root: root}, api.ErrFaulty)
		s.unchanged(t, what, was)
	}
}

// P13.3: index blocks that are as said, though no Build makes them: with one to 16 data blocks, of which each has one pair, or of one data block named twice.
func TestStrangeIndexBlocks(t *testing.T) {
	root := ref(20, 7)
	for n := 1; n <= 16; n++ {
		s := shelf(t)
		s.lay(t, indexOf(root, n, letters(n)...))
		var l []item
		for _, key := range letters(n) {
			l = append(l, item{key: key, value: "of " + key})
		}
		r := api.Run{Root: root}
		wantAll(t, "laid", s.g, r, l)
		s.wantCalls(t, "laid", r, near(letters(17)...)...)
		for i, p := range l {
			wantGet(t, "laid", s.g, r, p)
			wantBetween(t, "laid", s.g, r, p.key, "", l[i:])
		}
		s.wantDrop(t, "laid", r)
	}
	s := shelf(t)
	twice := indexOf(root, 2, "a", "b")
	twice.Refs[1] = twice.Refs[0]
	s.lay(t, twice)
	r := api.Run{Root: root}
	one := item{key: "a", value: "of a"}
	wantAll(t, "named twice", s.g, r, []item{one, one})
	wantBlocks(t, "named twice", s.g, r, root, ref(1, 5), ref(1, 5))
	refuseGet(t, "named twice", s.g, r, "b", api.ErrMissing)
	s.wantCalls(t, "named twice", r, near("a", "b")...)
}

// P13.3: what the index says is what leads to a pair: a key that stands in another block than the index says is missing, and Between tells only what it asks for.
func TestIndexThatSaysOtherwise(t *testing.T) {
	s := shelf(t)
	root := ref(20, 7)
	s.lay(t, indexOf(root, 3, "b", "c", "d"))
	r := api.Run{Root: root}
	refuseGet(t, "ahead of the index", s.g, r, "a", api.ErrMissing)
	refuseGet(t, "in the block ahead", s.g, r, "c", api.ErrMissing)
	a, b, c := item{key: "a", value: "of a"}, item{key: "b", value: "of b"}, item{key: "c", value: "of c"}
	wantAll(t, "all", s.g, r, []item{a, b, c})
	wantBetween(t, "below c", s.g, r, "", "c", []item{a})
	wantBetween(t, "c on", s.g, r, "c", "", []item{c})
	s.wantCalls(t, "otherwise", r, near(letters(6)...)...)
}

// P13.3: data blocks, sealed rightly, that are not as said: Get, All and Between tell ErrFaulty where they ask for them, and nothing is wanted, as the block is there; Blocks and Drop do not look at them.
func TestWrongDataBlocks(t *testing.T) {
	root, r := ref(20, 7), api.Run{Root: ref(20, 7)}
	at := ref(2, 5)
	good := item{key: "b", value: "1"}.bytes() + item{key: "bb", gone: true}.bytes()
	wrong := map[string]api.GridBlock{
		"no bytes":             dataOf(at, ""),
		"a key of no bytes":    dataOf(at, "\x00\x00"),
		"a key of 33 bytes":    dataOf(at, item{key: strings.Repeat("b", 33)}.bytes()),
		"a value of 129 bytes": dataOf(at, item{key: "b", value: strings.Repeat("v", 129)}.bytes()),
		"a value of 254 bytes": dataOf(at, item{key: "b", value: strings.Repeat("v", 254)}.bytes()),
		"a value of 255 bytes": dataOf(at, item{key: "b", value: strings.Repeat("v", 255)}.bytes()),
		"pairs that fall":      dataOf(at, item{key: "bb"}.bytes()+item{key: "b"}.bytes()),
		"one key twice":        dataOf(at, item{key: "b"}.bytes()+item{key: "b", gone: true}.bytes()),
		"a byte behind":        dataOf(at, good+"\x00"),
		"an index block":       indexOf(at, 2, "b", "c"),
	}
	for cut := range len(good) {
		if cut != 0 && cut != 4 {
			wrong[fmt.Sprint("cut off at ", cut)] = dataOf(at, good[:cut])
		}
	}
	for kind := 2; kind <= 15; kind++ {
		b := dataOf(at, good)
		b.Kind = kind
		wrong[fmt.Sprint("of the kind ", kind)] = b
	}
	for n := 1; n <= 16; n++ {
		b := dataOf(at, good)
		b.Refs = indexOf(at, n).Refs
		wrong[fmt.Sprint("with Refs: ", n)] = b
	}
	for _, named := range []api.Ref{at, root, ref(24, 5), ref(1, 6), ref(25, 0), ref(512, most)} {
		b := dataOf(at, good)
		b.Refs = []api.Ref{named}
		wrong[fmt.Sprint("that names ", named)] = b
	}
	for what, b := range wrong {
		s := shelf(t)
		s.lay(t, b)
		s.lay(t, indexOf(root, 3, "a", "b", "c"))
		was := s.look(t)
		wantGet(t, what, s.g, r, item{key: "a", value: "of a"})
		wantGet(t, what, s.g, r, item{key: "c", value: "of c"})
		for _, key := range []string{"b", "b\x00", "bb", "bzzz"} {
			refuseGet(t, what, s.g, r, key, api.ErrFaulty)
			refuseBetween(t, what, s.g, r, key, "", api.ErrFaulty)
			refuseBetween(t, what, s.g, r, "", key+"\x00", api.ErrFaulty)
		}
		refuseAll(t, what, s.g, r, api.ErrFaulty)
		wantBetween(t, what, s.g, r, "", "b", []item{{key: "a", value: "of a"}})
		wantBetween(t, what, s.g, r, "c", "", []item{{key: "c", value: "of c"}})
		wantBlocks(t, what, s.g, r, root, ref(1, 5), at, ref(3, 5))
		s.wantCalls(t, what, r, near("a", "b", "c")...)
		s.unchanged(t, what, was)
		want(t, what+": Drop", table.Drop(s.g, r), api.OK)
	}
}

// P13.3: a data block that grid has written with Refs is not as said: what asks for it tells ErrFaulty, and nothing beside it; what does not is told.
func TestADataBlockWrittenWithRefs(t *testing.T) {
	for _, refs := range [][]api.Ref{nil, {ref(1, 0)}, {ref(2, 0)}, slices.Repeat([]api.Ref{ref(1, 0)}, 16)} {
		s := begin(t, 8)
		data, e := s.g.Write(api.KindData, refs, []byte("\x01a\x01x"), 0)
		ok(t, "Write", e)
		root, e := s.g.Write(api.KindIndex, []api.Ref{data}, []byte("\x01a"), 0)
		ok(t, "Write", e)
		s.hows[0], s.hows[1] = taken, taken
		r, what := api.Run{Root: root}, fmt.Sprint("Refs: ", refs)
		if refs == nil {
			a := item{key: "a", value: "x"}
			wantGet(t, what, s.g, r, a)
			wantAll(t, what, s.g, r, []item{a})
			wantBetween(t, what, s.g, r, "a", "b", []item{a})
		} else {
			refuseGet(t, what, s.g, r, "a", api.ErrFaulty)
			refuseGet(t, what, s.g, r, "b", api.ErrFaulty)
			refuseAll(t, what, s.g, r, api.ErrFaulty)
			refuseBetween(t, what, s.g, r, "a", "b", api.ErrFaulty)
		}
		refuseGet(t, what, s.g, r, "0", api.ErrMissing)
		wantBetween(t, what, s.g, r, "", "a", nil)
		wantBlocks(t, what, s.g, r, ref(2, 0), ref(1, 0))
		s.wantCalls(t, what, r, near("a")...)
		s.wantDrop(t, what, r)
	}
}

// P13.3: data blocks that are as said, though no Build makes them: of more than 64 pairs.
func TestStrangeDataBlocks(t *testing.T) {
	root, r := ref(20, 7), api.Run{Root: ref(20, 7)}
	var l []item
	body := ""
	for i := range 150 {
		l = append(l, item{key: fmt.Sprintf("%03d", i), gone: i%2 == 0})
		body += l[i].bytes()
	}
	s := begin(t, 24)
	s.lay(t, dataOf(ref(1, 5), body))
	s.lay(t, indexOf(root, 1, "000"))
	wantAll(t, "strange", s.g, r, l)
	wantGet(t, "strange", s.g, r, l[149])
	s.wantCalls(t, "strange", r, near("000", "064", "065", "149")...)
}

// P13.3: what is missing is wanted, once, and only what was asked for: the index block by each call, the data block of a key by Get, the first one that is missing by All and Between, nothing by Blocks and Drop.
func TestWhatIsWanted(t *testing.T) {
	l := heavy(17) // four data blocks, from the keys 1, 11, 21 and 31 on
	key := func(n int) string { return fmt.Sprintf("%032d", n) }
	made := func() (*scene, api.Run) {
		s := begin(t, 20)
		return s, s.built(t, l, 5)
	}
	s, r := made()
	calls := map[string]func() api.Errno{
		"Get":     func() api.Errno { _, e := table.Get(s.g, r, []byte("a")); return e },
		"Get ''":  func() api.Errno { _, e := table.Get(s.g, r, nil); return e },
		"All":     func() api.Errno { _, e := table.All(s.g, r); return e },
		"Between": func() api.Errno { _, e := table.Between(s.g, r, []byte("b"), []byte("a")); return e },
		"Blocks":  func() api.Errno { _, e := table.Blocks(s.g, r); return e },
		"Drop":    func() api.Errno { return table.Drop(s.g, r) },
	}
	for what, call := range calls {
		s, r = made()
		s.turn(t, r.Root.Address, 900, 8)
		s.wanted = []api.Ref{r.Root}
		for range 2 {
			want(t, what, call(), api.ErrFaulty)
			s.check(t, what+", the index block is missing")
		}
	}
	s, r = made()
	for _, address := range []int{2, 3, 4} {
		s.turn(t, address, 900, 8)
	}
	wantGet(t, "the first block is there", s.g, r, l[0])
	wantBlocks(t, "missing", s.g, r, r.Root, ref(1, 5), ref(2, 5), ref(3, 5), ref(4, 5))
	s.check(t, "nothing that is missing was asked for")
	refuseGet(t, "missing", s.g, r, key(33), api.ErrFaulty)
	s.wanted = []api.Ref{ref(4, 5)}
	s.check(t, "Get")
	for range 2 {
		refuseAll(t, "missing", s.g, r, api.ErrFaulty)
		s.wanted = []api.Ref{ref(4, 5), ref(2, 5)}
		s.check(t, "All")
	}
	refuseBetween(t, "missing", s.g, r, key(25), "", api.ErrFaulty)
	s.wanted = []api.Ref{ref(4, 5), ref(2, 5), ref(3, 5)}
	s.check(t, "Between")
	want(t, "Drop", table.Drop(s.g, r), api.OK)
	s.hows = append(slices.Repeat([]int{letGo}, 5), make([]int, 15)...)
	s.check(t, "Drop")
}

// P13.3: what is missing and is installed then is told again.
func TestInstalledAgain(t *testing.T) {
	l := mixed(64, 4)
	s := begin(t, 20)
	r := s.built(t, l, 5)
	blocks, e := table.Blocks(s.g, r)
	ok(t, "Blocks", e)
	var raws [][]byte
	for _, b := range blocks {
		raw, e := s.g.Raw(b)
		ok(t, "Raw", e)
		raws = append(raws, raw)
		s.turn(t, b.Address, 200, 0x10)
	}
	for i, b := range blocks {
		refuseAll(t, "missing", s.g, r, api.ErrFaulty)
		s.wanted = []api.Ref{b}
		s.check(t, "missing")
		ok(t, "Install", s.g.Install(b, raws[i]))
	}
	wantAll(t, "installed", s.g, r, l)
	s.wanted = nil
	s.check(t, "installed")
}

// P13.3: roots that are not of the grid, that name nothing, or that name a data block.
func TestWrongRoots(t *testing.T) {
	s := begin(t, 4)
	l := []item{{key: "a", value: "1"}}
	r := s.built(t, l, 5)
	was := s.look(t)
	for _, root := range []api.Ref{
		{}, ref(0, 5), ref(5, 5), ref(-1, 5), ref(513, 5), ref(2, -1), ref(2, most+1), ref(math.MaxInt, 0), ref(math.MinInt, math.MinInt), ref(2+1<<16, 5),
	} {
		refuseAllCalls(t, fmt.Sprint("the root ", root), s.g, api.Run{Root: root}, api.ErrArg)
	}
	s.unchanged(t, "roots that are not of the grid", was)
	refuseAllCalls(t, "a data block", s.g, api.Run{Root: ref(1, 5)}, api.ErrFaulty)
	s.unchanged(t, "a data block", was)
	for _, root := range []api.Ref{ref(2, 4), ref(2, 6), ref(3, 0), ref(1, 0), ref(4, most)} {
		refuseAllCalls(t, fmt.Sprint("the root ", root), s.g, api.Run{Root: root}, api.ErrFaulty)
		s.wanted = append(s.wanted, root)
		s.unchanged(t, "roots that name nothing", was)
	}
	wantAll(t, "the table", s.g, r, l)
}

// P13.3: data blocks that the index names and that are not of the grid: grid's error, where they are asked for.
func TestDataBlocksThatAreNotOfTheGrid(t *testing.T) {
	s := shelf(t)
	root, r := ref(20, 7), api.Run{Root: ref(20, 7)}
	b := indexOf(root, 3, "a", "b", "c")
	b.Refs[1] = ref(25, 5)
	s.lay(t, b)
	wantGet(t, "the first one", s.g, r, item{key: "a", value: "of a"})
	wantGet(t, "the last one", s.g, r, item{key: "c", value: "of c"})
	refuseGet(t, "not of the grid", s.g, r, "b", api.ErrArg)
	refuseAll(t, "not of the grid", s.g, r, api.ErrArg)
	refuseBetween(t, "not of the grid", s.g, r, "b", "c", api.ErrArg)
	wantBetween(t, "not of the grid", s.g, r, "c", "", []item{{key: "c", value: "of c"}})
	wantBlocks(t, "not of the grid", s.g, r, root, ref(1, 5), ref(25, 5), ref(3, 5))
	s.wantCalls(t, "not of the grid", r, near("a", "b", "c")...)
	s.check(t, "not of the grid")
}

// P13.3: a disk that is out: ErrBroken, ahead of what is said of the Root; when it is up again all is told.
func TestADiskThatIsOut(t *testing.T) {
	s := begin(t, 20)
	l := mixed(30, 5)
	r := s.built(t, l, 5)
	s.blow(t)
	was := s.look(t)
	for _, root := range []api.Ref{r.Root, ref(1, 5), ref(1, 4), {}, ref(21, 5)} {
		refuseAllCalls(t, "out", s.g, api.Run{Root: root}, api.ErrBroken)
	}
	refuseBuild(t, "out", s.g, pairs(l), 5, api.ErrBroken)
	s.unchanged(t, "out", was)
	ok(t, "Crash", s.d.Crash(slices.Repeat([]bool{true}, s.d.Sectors()), -1))
	wantAll(t, "up again", s.g, r, l)
	s.wantCalls(t, "up again", r, keysOf(l)...)
}
