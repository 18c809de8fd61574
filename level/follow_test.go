package level_test

import (
	"fmt"
	"math/rand"
	"slices"
	"sort"
	"testing"

	"exchequer/api"
	"exchequer/level"
	"exchequer/merge"
	"exchequer/table"
)

// tree is a scene with levels, and a plain map of what came last under each key.
type tree struct {
	*scene
	l     [][]tab
	plain map[string]item
	stamp int
}

// sow is a tree without tables.
func sow(t testing.TB, blocks int) *tree {
	t.Helper()
	return &tree{scene: begin(t, blocks), plain: map[string]item{}}
}

// add adds a table of pairs, if there is room for it, and tells whether there is.
func (x *tree) add(t testing.TB, there map[string]item) bool {
	t.Helper()
	var l []item
	for _, p := range there {
		l = append(l, p)
	}
	sort.Slice(l, func(i, j int) bool { return l[i].key < l[j].key })
	x.stamp++
	r, e := table.Build(x.g, pairs(l), x.stamp)
	if e == api.ErrFull {
		return false
	}
	ok(t, "table.Build", e)
	all, e := level.Add(allRuns(x.l), r)
	ok(t, "Add", e)
	x.l = allTabs(all)
	for _, p := range l {
		x.plain[p.key] = p
	}
	return true
}

// stepped steps once, with no eye on what is written, and tells whether something was merged.
func (x *tree) stepped(t testing.TB) bool {
	t.Helper()
	all, is, e := level.Step(x.g, allRuns(x.l), x.stamp)
	if e == api.ErrFull {
		return false
	}
	ok(t, "Step", e)
	x.l = allTabs(all)
	return is
}

// wantBlocks wants the blocks that are taken to be those of the tables in the levels, each of one alone (P15.7).
func (x *tree) wantBlocks(t testing.TB, what string) {
	t.Helper()
	hows := make([]byte, 2+(x.blocks+3)/4)
	hows[0], hows[1] = byte(x.blocks%256), byte(x.blocks/256)
	taken := 0
	for _, r := range slices.Concat(x.l...) {
		for _, ref := range x.blocksOf(t, r) {
			at, bits := 2+(ref.Address-1)/4, byte(1)<<((ref.Address-1)%4*2)
			if hows[at]&bits != 0 {
				t.Errorf("%s: two tables have the block %d", what, ref.Address)
			}
			hows[at] |= bits
			taken++
		}
	}
	set := x.g.Free()
	for i := 2; i < len(set); i++ {
		if set[i]&0x55 != hows[i] {
			t.Errorf("%s: of the blocks from %d on %08b are taken, those of tables are %08b", what, 4*i-7, set[i]&0x55, hows[i])
		}
	}
	if _, n, _ := x.g.Counts(); n != taken {
		t.Errorf("%s: %d blocks are taken, the tables have %d", what, n, taken)
	}
}

// wantPlain wants keys to have what came last under them: a pair; nothing of one that is Gone, or was never there (P15.6).
func (x *tree) wantPlain(t testing.TB, what string, keys []string) {
	t.Helper()
	if !mayBe(x.l) {
		t.Fatalf("%s: the levels may not be: %v", what, x.l)
	}
	want(t, what+": Check", level.Check(allRuns(x.l)), api.OK)
	for _, key := range keys {
		got, e := level.Get(x.g, allRuns(x.l), []byte(key))
		p, is := x.plain[key]
		switch {
		case is && !p.gone:
			wantPair(t, fmt.Sprintf("%s: Get(%q)", what, key), got, e, p, api.OK)
		case e == api.ErrMissing:
			wantPair(t, fmt.Sprintf("%s: Get(%q)", what, key), got, e, item{}, e)
		default:
			wantPair(t, fmt.Sprintf("%s: Get(%q), which is gone", what, key), got, e, item{key: key, gone: true}, api.OK)
		}
	}
}

// wantPlainLists wants what Lists tells, merged, to be what came last under the keys between two.
func (x *tree) wantPlainLists(t testing.TB, what string, from, to string) {
	t.Helper()
	lists, e := level.Lists(x.g, allRuns(x.l), []byte(from), []byte(to))
	ok(t, "Lists", e)
	var all []item
	for _, p := range x.plain {
		if !p.gone && p.key >= from && (to == "" || p.key < to) {
			all = append(all, p)
		}
	}
	sort.Slice(all, func(i, j int) bool { return all[i].key < all[j].key })
	for len(lists) > 32 {
		// More than may be merged at once: the oldest ones first, with marks kept.
		old, e := merge.Merge(lists[len(lists)-2:], false)
		ok(t, "Merge", e)
		lists = append(lists[:len(lists)-2], old)
	}
	got, e := merge.Merge(lists, true)
	if e != api.OK || !slices.Equal(items(got), all) {
		t.Errorf("%s: between %q and %q: %v, %v, want %v", what, from, to, items(got), e, all)
	}
}

// manner is how the tables of a script are: of how many keys, at most how many pairs, of how many keys next to one another, how many of a hundred Gone.
type manner struct{ adds, keys, most, wide, gone int }

func (m manner) key(i int) string { return fmt.Sprintf("%05d", i) }

// any is the pairs of a table.
func (m manner) any(chance *rand.Rand, name string) map[string]item {
	there := map[string]item{}
	from := chance.Intn(m.keys)
	for range 1 + chance.Intn(m.most) {
		p := item{key: m.key((from + chance.Intn(m.wide)) % m.keys), value: name}
		if chance.Intn(100) < m.gone {
			p.value, p.gone = "", true
		}
		there[p.key] = p
	}
	return there
}

// some are keys, all of which come by and by.
func (m manner) some(turn, apart int) []string {
	var keys []string
	for i := turn % apart; i < m.keys; i += apart {
		keys = append(keys, m.key(i))
	}
	return keys
}

// P15.6, P15.7: any tables, narrow and wide, with few marks and many, added, and stepped as long as anything is over, and now and then not.
func TestAddedAndStepped(t *testing.T) {
	for i, m := range []manner{
		{60, 26, 8, 26, 30}, {60, 8, 3, 8, 60}, {120, 100, 10, 100, 30}, {120, 300, 20, 20, 50}, {160, 1000, 32, 100, 30}, {160, 1000, 32, 100, 30},
		{160, 1000, 20, 1000, 30}, {120, 2000, 64, 1000, 10}, {160, 2000, 32, 60, 40}, {160, 2000, 20, 60, 70}, {120, 400, 1, 1, 50}, {150, 600, 2, 30, 90},
	} {
		t.Run(fmt.Sprint(m), func(t *testing.T) {
			t.Parallel()
			chance := rand.New(rand.NewSource(int64(153 + i)))
			x := sow(t, 512)
			merged := 0
			for turn := range m.adds {
				what := fmt.Sprint("the turn ", turn)
				if !x.add(t, m.any(chance, fmt.Sprint(turn))) {
					t.Fatalf("%s: no room", what)
				}
				for chance.Intn(5) > 0 && x.stepped(t) {
					merged++
					x.wantBlocks(t, what)
					if chance.Intn(3) > 0 {
						x.g.Settle()
					}
				}
				x.wantPlain(t, what, m.some(turn, 1+m.keys/20))
				from, to := chance.Intn(m.keys), chance.Intn(m.keys)
				x.wantPlainLists(t, what, m.key(from), m.key(min(to, from+50)))
				if t.Failed() {
					t.FailNow()
				}
			}
			x.wantPlain(t, "at the end", m.some(0, 1))
			x.wantPlainLists(t, "at the end", "", "")
			x.wantBlocks(t, "at the end")
			if merged < m.adds/10 {
				t.Errorf("%d steps alone have merged", merged)
			}
		})
	}
}

// grown is a tree whose levels are filled at once, so that any of the first three may be over. The tables of the first one are near one another; if apart, no table of the last two levels overlaps these.
func grown(t testing.TB, chance *rand.Rand, apart bool) *tree {
	t.Helper()
	x := sow(t, 400)
	x.l = make([][]tab, 4)
	near := 10 + chance.Intn(50)
	for at := 3; at >= 0; at-- {
		next := 0
		for range []int{3, 0, 0, 0}[at] + chance.Intn([]int{5, 12, 20, 25}[at]) {
			next += chance.Intn([]int{1, 3, 9, 9}[at])
			if at == 0 {
				next = near + chance.Intn(3)
			}
			from := next
			var l []item
			for range 1 + chance.Intn([]int{3, 12, 6, 6}[at]) {
				next += 1 + chance.Intn(2)
				p := item{key: fmt.Sprintf("%05d", next), value: fmt.Sprint("level ", at)}
				if chance.Intn(2) == 0 {
					p.value, p.gone = "", true
				}
				l = append(l, p)
			}
			if next < 260 && (!apart || at < 2 || next < near || from > near+9) {
				x.plant(t, at, l)
			}
		}
	}
	return x
}

// plant builds a table in a level, the levels behind which are there.
func (x *tree) plant(t testing.TB, at int, l []item) {
	t.Helper()
	for _, p := range l {
		x.plain[p.key] = p
	}
	r := x.built(t, l, at)
	if at == 0 {
		x.l[0] = append([]tab{r}, x.l[0]...)
	} else {
		x.l[at] = append(x.l[at], r)
	}
}

// P15.6: the same of levels that are filled at once, of which any are over: each step is as it must be, and each key has what it had. Marks that Drop would let go, though something older is behind them, come by.
func TestStepsOfGrownTrees(t *testing.T) {
	t.Parallel()
	chance := rand.New(rand.NewSource(156))
	hidden := 0
	for round := range 120 {
		x := grown(t, chance, round%2 == 0)
		keys := manner{keys: 260}.some(0, 1)
		what := fmt.Sprint("round ", round)
		x.wantPlain(t, what+", as it grew", keys)
		for {
			at, is := over(x.l)
			if !is {
				break
			}
			p, _ := chosen(x.l, at)
			hidden += x.hiding(t, p)
			next, did := x.wantStep(t, what, x.l, 9)
			if !did {
				t.Fatalf("%s: nothing was merged", what)
			}
			x.l = next
			x.wantPlain(t, what, keys)
			x.wantBlocks(t, what)
			if chance.Intn(2) == 0 {
				x.g.Settle()
			}
			if t.Failed() {
				t.FailNow()
			}
		}
	}
	if hidden < 5 {
		t.Errorf("%d marks alone hid something beyond what From spans", hidden)
	}
}

// hiding tells how many marks of Into stand under keys of which a later level has a pair, though nothing of that level overlaps what From spans.
func (x *tree) hiding(t testing.TB, p plan) int {
	t.Helper()
	n := 0
	if !p.drop {
		return 0
	}
	for _, r := range p.into {
		l, e := table.All(x.g, r.run())
		ok(t, "All", e)
		for _, q := range l {
			old, e := level.Get(x.g, allRuns(append(make([][]tab, p.level+2), x.l[p.level+2:]...)), q.Key)
			if q.Gone && e == api.OK && !old.Gone {
				n++
			}
		}
	}
	return n
}

// deeds takes numbers from bytes, noughts behind their end.
type deeds struct{ b []byte }

func (s *deeds) next(below int) int {
	if len(s.b) == 0 {
		return 0
	}
	x := int(s.b[0])
	s.b = s.b[1:]
	return x % below
}

// chance is a source of numbers that hangs on the bytes.
func (s *deeds) chance() *rand.Rand {
	return rand.New(rand.NewSource(int64(s.next(256))<<8 + int64(s.next(256))))
}

// word is the i-th key of 90, in order: of one letter or two.
func word(i int) string {
	i %= 90
	if i%9 == 0 {
		return letter(i / 9)
	}
	return letter(i/9) + letter(i%9)
}

// pairs are those of a table: keys near one another.
func (s *deeds) pairs(name string) map[string]item {
	there := map[string]item{}
	at := s.next(90)
	for range 1 + s.next(8) {
		p := item{key: word(at), value: name}
		if s.next(3) == 0 {
			p.value, p.gone = "", true
		}
		there[p.key] = p
		at += 1 + s.next(4)
	}
	return there
}

// harmed is a clone of a tree to which something is done: a byte is turned, or a table is not as its blocks are.
func (x *tree) harmed(t testing.TB, by *deeds) *tree {
	t.Helper()
	c := &tree{scene: x.clone(t), stamp: x.stamp}
	for _, one := range x.l {
		c.l = append(c.l, slices.Clone(one))
	}
	switch by.next(5) {
	case 0, 1:
		c.turn(t, api.Ref{Address: 1 + by.next(c.blocks)}, 4*by.next(256))
	case 2:
		c.l = nudge(by.chance(), c.l)
	case 3:
		if by.next(4) == 0 {
			c.blow(t)
		}
	default:
		at := by.next(4)
		if at < len(c.l) && len(c.l[at]) > 0 {
			c.l[at][by.next(len(c.l[at]))].root = api.Ref{Address: by.next(c.blocks + 2), Stamp: by.next(9)}
		}
	}
	return c
}

// wantCalls wants all calls that look at a tree to tell what they must.
func (x *tree) wantCalls(t testing.TB, by *deeds) {
	t.Helper()
	a, b := word(by.next(90)), word(by.next(90))
	for _, key := range []string{a, b, a + "\x00"} {
		x.wantGet(t, "a script", x.l, key)
	}
	x.wantLists(t, "a script", x.l, a, b)
	x.wantLists(t, "a script", x.l, b, "")
	wantSpans(t, "a script", x.l, a, b)
	chance := by.chance()
	wantAnyReplace(t, "a script", chance, x.l)
	wantChoose(t, "a script", x.l, chance.Intn(5)-1)
	at, is := over(x.l)
	wantOver(t, "a script", x.l, at, is)
}

// deed does one deed.
func (x *tree) deed(t testing.TB, by *deeds) {
	t.Helper()
	switch by.next(16) {
	case 0, 1, 2, 3, 4, 5, 6:
		x.add(t, by.pairs(fmt.Sprint(x.stamp)))
	case 7, 8, 9:
		l, is := x.wantStep(t, "a script", x.l, x.stamp)
		x.l = l
		if is {
			x.wantPlain(t, "a script", manner{}.words())
		}
	case 10:
		x.g.Settle()
	case 11:
		c := x.clone(t)
		c.wantStepFused(t, "a script", x.l, x.stamp, by.next(12))
	case 12, 13:
		c := x.harmed(t, by)
		c.wantCalls(t, by)
		c.wantStep(t, "a script", c.l, by.next(9)-by.next(16)/15)
	case 14:
		x.wantPlainLists(t, "a script", word(by.next(90)), word(by.next(90)))
	default:
		x.wantCalls(t, by)
	}
	x.wantBlocks(t, "a script")
}

func (manner) words() []string {
	var l []string
	for i := range 90 {
		l = append(l, word(i))
	}
	return l
}

// play does deeds, and wants each call to tell what the chapter's words tell, and each key to have what came last under it.
func play(t testing.TB, blocks int, script []byte) {
	t.Helper()
	x := sow(t, blocks)
	for by := (&deeds{script}); len(by.b) > 0 && !t.Failed(); {
		x.deed(t, by)
	}
	x.wantPlain(t, "a script", manner{}.words())
	x.wantPlainLists(t, "a script", "", "")
}

// P15.1 to P15.7: any deeds, on grids of many blocks and of few.
func TestScripts(t *testing.T) {
	t.Parallel()
	chance := rand.New(rand.NewSource(157))
	for i := range 60 {
		script := make([]byte, 1200)
		chance.Read(script)
		blocks := []int{300, 60, 25, 12}[i%4]
		t.Run(fmt.Sprint(i, " on ", blocks), func(t *testing.T) {
			t.Parallel()
			play(t, blocks, script)
		})
	}
}

// FuzzLevels looks for deeds behind which levels tell other than they must.
func FuzzLevels(f *testing.F) {
	f.Add(byte(60), []byte{0, 5, 1, 1, 1, 0, 9, 0, 0, 5, 2, 1, 1, 1, 0, 2, 1, 7, 1, 4, 4, 0, 1, 1, 1, 7, 10, 15, 3, 9})
	f.Add(byte(12), slices.Repeat([]byte{0, 5, 1, 1, 1, 2, 0, 0, 7}, 30))
	f.Add(byte(200), slices.Repeat([]byte{3, 17, 3, 0, 2, 1, 1, 2, 2, 1, 3, 8, 12, 1, 9, 4, 4, 14, 2, 80, 11, 5, 10}, 25))
	f.Fuzz(func(t *testing.T, blocks byte, script []byte) {
		play(t, 1+int(blocks), script[:min(len(script), 1200)])
	})
}
