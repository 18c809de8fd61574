package forest_test

import (
	"fmt"
	"math/rand"
	"slices"
	"testing"

	"exchequer/api"
	"exchequer/forest"
)

// maps are six plain maps.
type maps [6]map[string]string

func newMaps() maps {
	var m maps
	for i := range m {
		m[i] = map[string]string{}
	}
	return m
}

func (m maps) clone() maps {
	c := newMaps()
	for i := range m {
		for key, value := range m[i] {
			c[i][key] = value
		}
	}
	return c
}

// saved is a checkpoint, and what was there then.
type saved struct {
	root  api.Ref
	extra string
	plain maps
}

// wood is a forest beside six plain maps.
type wood struct {
	*scene
	f     *forest.Forest
	plain maps
	op    int
	last  saved
}

func sow(t testing.TB, blocks int) *wood {
	t.Helper()
	s := begin(t, blocks)
	return &wood{scene: s, f: planted(t, s), plain: newMaps()}
}

// manner is how a script is: how many turns, of how many keys each tree, how many bytes of a value at most, how many of a hundred calls are removals, after how many turns there is a Tick, and a checkpoint.
type manner struct{ turns, keys, value, gone, tick, mark int }

func (m manner) key(chance *rand.Rand) string { return fmt.Sprintf("%05d", chance.Intn(m.keys)) }

// lay puts or removes something; where the table in memory is full, there is a Tick first.
func (w *wood) lay(t testing.TB, m manner, chance *rand.Rand) {
	t.Helper()
	tree, key, value := chance.Intn(6), m.key(chance), fmt.Sprint(w.op, "-")
	if chance.Intn(3) > 0 {
		tree = 1
	}
	for len(value) < m.value && chance.Intn(8) > 0 {
		value += value
	}
	value = value[:min(len(value), m.value)]
	do := func() api.Errno {
		if chance.Intn(100) < m.gone {
			delete(w.plain[tree], key)
			return w.f.Remove(tree, []byte(key))
		}
		w.plain[tree][key] = value
		return w.f.Put(tree, []byte(key), []byte(value))
	}
	was := w.plain.clone()
	if e := do(); e == api.ErrFull {
		w.plain = was
		w.tick(t)
		e = do()
		ok(t, "Put behind a Tick", e)
	} else {
		ok(t, "Put", e)
	}
}

func (w *wood) tick(t testing.TB) {
	t.Helper()
	w.op++
	ok(t, fmt.Sprint("Tick ", w.op), w.f.Tick(w.op))
}

// mark makes a checkpoint, and settles.
func (w *wood) mark(t testing.TB, chance *rand.Rand) {
	t.Helper()
	w.op++
	extra := string(make([]byte, chance.Intn(3)*chance.Intn(900))) + fmt.Sprint(w.op)
	root, e := w.f.Checkpoint(w.op, []byte(extra))
	ok(t, fmt.Sprint("Checkpoint ", w.op), e)
	w.last = saved{root, extra, w.plain.clone()}
}

// wantPlain wants each key of a tree to have what the map has, and what is between two keys to be what the map has there.
func wantPlain(t testing.TB, what string, f *forest.Forest, plain maps, tree int, m manner, chance *rand.Rand, keys int) {
	t.Helper()
	for range keys {
		key := m.key(chance)
		value, is := plain[tree][key]
		wrong := api.OK
		if !is {
			wrong = api.ErrMissing
		}
		wantGet(t, what, f, tree, key, value, wrong)
	}
	from, to, n := m.key(chance), m.key(chance), 1+chance.Intn(1000)
	if keys == 0 {
		from, to, n = "", "", 1000
	}
	there := map[string]item{}
	for key, value := range plain[tree] {
		there[key] = item{key: key, value: value}
	}
	l := between(sorted(there), from, to)
	wantScan(t, what, f, tree, from, to, n, l[:min(n, len(l))], api.OK)
}

func manners() []manner {
	return []manner{
		{400, 20, 8, 30, 2, 8}, {400, 300, 30, 20, 1, 8}, {600, 900, 20, 30, 1, 8}, {400, 100, 128, 50, 1, 5}, {500, 700, 128, 10, 1, 16}, {300, 40, 8, 80, 3, 3}, {300, 200, 50, 40, 1, 1}, {500, 400, 20, 30, 1, 40},
	}
}

// P16.6: whatever is put, removed, ticked and checkpointed, each tree is a plain map.
func TestPlainMaps(t *testing.T) {
	for i, m := range manners() {
		t.Run(fmt.Sprint(m), func(t *testing.T) {
			t.Parallel()
			chance := rand.New(rand.NewSource(int64(166 + i)))
			w := sow(t, 512)
			for turn := range m.turns {
				for range 1 + chance.Intn(12) {
					w.lay(t, m, chance)
				}
				if turn%m.tick == 0 {
					w.tick(t)
				}
				if turn%m.mark == 0 {
					w.mark(t, chance)
					w.f.Settle()
				}
				if chance.Intn(20) == 0 && w.op > 0 {
					// As behind a crash: what was laid since the last checkpoint is gone.
					w.scene = w.scene.anew(t)
					w.f = w.scene.opened(t, w.last.root, w.last.extra)
					w.plain = w.last.plain.clone()
				}
				wantPlain(t, fmt.Sprint("turn ", turn), w.f, w.plain, chance.Intn(6), m, chance, 4)
				wantPlain(t, fmt.Sprint("turn ", turn), w.f, w.plain, 1, m, chance, 4)
				if t.Failed() {
					return
				}
			}
			for tree := range 6 {
				wantPlain(t, "at the end", w.f, w.plain, tree, m, chance, 0)
				wantPlain(t, "at the end", w.f, w.plain, tree, m, chance, 2*m.keys)
			}
			if sizes := w.f.Sizes(); m.keys > 500 && sizes[5+1+2] == 0 {
				t.Errorf("Sizes: %v", sizes)
			}
		})
	}
}

// afterCrash is a scene on a clone of the disk behind a crash, by chance, with a grid of free blocks.
func (s *scene) afterCrash(t testing.TB, chance *rand.Rand) *scene {
	t.Helper()
	c := &scene{d: s.d.Clone(), blocks: s.blocks}
	keeps := make([]bool, c.d.Sectors())
	often := chance.Intn(4)
	for i := range keeps {
		keeps[i] = chance.Intn(3) < often
	}
	ok(t, "Crash", c.d.Crash(keeps, chance.Intn(20)-3))
	return c.anew(t)
}

// isThere wants a checkpoint to be opened, and to be as it was.
func (x saved) isThere(t testing.TB, what string, s *scene, m manner, chance *rand.Rand) {
	t.Helper()
	f := s.opened(t, x.root, x.extra)
	for tree := range 6 {
		wantPlain(t, what, f, x.plain, tree, m, chance, 0)
	}
}

// P16.7: each checkpoint, opened behind a crash and behind whatever was done since, is as it was, till something is settled behind a later one; the earlier one, too, till then.
func TestOpenedBehindCrashes(t *testing.T) {
	for i, m := range manners() {
		m.turns = min(m.turns, 200)
		t.Run(fmt.Sprint(m), func(t *testing.T) {
			t.Parallel()
			chance := rand.New(rand.NewSource(int64(167 + i)))
			w := sow(t, 512)
			var earlier []saved
			for turn := range m.turns {
				for range 1 + chance.Intn(12) {
					w.lay(t, m, chance)
				}
				if turn%m.tick == 0 {
					w.tick(t)
				}
				if turn%m.mark == 0 {
					if w.last.root != (api.Ref{}) {
						earlier = append(earlier, w.last)
					}
					w.mark(t, chance)
					if chance.Intn(2) == 0 {
						// What the earlier ones alone had is free by now.
						w.f.Settle()
						earlier = nil
					}
				}
				what := fmt.Sprint("turn ", turn)
				if w.last.root != (api.Ref{}) {
					w.last.isThere(t, what, w.afterCrash(t, chance), m, chance)
				}
				for _, x := range earlier {
					x.isThere(t, what+", an earlier one", w.afterCrash(t, chance), m, chance)
				}
				if t.Failed() {
					return
				}
			}
		})
	}
}

// P16.7: a disk that goes out anywhere in a Tick or a Checkpoint, and crashes: the last checkpoint is as it was; a new one is there, if it was told.
func TestOpenedWhereTheDiskWentOut(t *testing.T) {
	t.Parallel()
	m := manner{turns: 30, keys: 300, value: 60, gone: 30, tick: 1, mark: 5}
	for round := range 60 {
		chance := rand.New(rand.NewSource(int64(1670 + round)))
		w := sow(t, 300)
		for turn := range m.turns {
			for range 10 {
				w.lay(t, m, chance)
			}
			w.tick(t)
			if turn%m.mark == 0 {
				w.mark(t, chance)
				w.f.Settle()
			}
		}
		for range 30 {
			w.lay(t, m, chance)
		}
		plain := w.plain.clone()
		w.fuse(t, round)
		for i := 0; w.d.Up() && i < 3; i++ {
			w.op++
			e := w.f.Tick(w.op)
			if e == api.OK {
				w.op++
				root, wrong := w.f.Checkpoint(w.op, []byte("later"))
				if e = wrong; e == api.OK {
					w.last = saved{root, "later", plain}
				}
			}
			if e != api.OK {
				want(t, "the disk goes out", e, api.ErrBroken)
			}
		}
		for range 3 {
			w.last.isThere(t, fmt.Sprint("behind ", round, " changes"), w.afterCrash(t, chance), m, chance)
		}
		// The forest itself goes on, if nothing of its disk was lost.
		w.back(t)
		for tree := range 6 {
			wantPlain(t, "the forest itself", w.f, plain, tree, m, chance, 0)
		}
	}
}

// wantSame wants two scenes to have the same blocks, but for those that are free.
func wantSame(t testing.TB, what string, a, b *scene) {
	t.Helper()
	l := hows(a.g.Free())
	if !slices.Equal(l, hows(b.g.Free())) {
		t.Errorf("%s: the blocks are %v and %v", what, l, hows(b.g.Free()))
		return
	}
	x, y := a.bytesOf(t), b.bytesOf(t)
	for i, how := range l[1:] {
		if at := 1024 * i; how == 1 && x[at:at+1024] != y[at:at+1024] {
			t.Errorf("%s: the block %d is another one", what, i+1)
		}
	}
}

// P16.8: two forests that are told the same have the same blocks, byte by byte, with the same refs: on one another's disks, too; and one that was opened at each checkpoint, and told anew what came behind it.
func TestToldTheSame(t *testing.T) {
	for i, m := range manners() {
		m.turns = min(m.turns, 150)
		t.Run(fmt.Sprint(m), func(t *testing.T) {
			t.Parallel()
			a, b := sow(t, 512), sow(t, 512)
			one, other := rand.New(rand.NewSource(int64(168+i))), rand.New(rand.NewSource(int64(168+i)))
			for turn := range m.turns {
				what := fmt.Sprint("turn ", turn)
				for range 1 + one.Intn(12) {
					a.lay(t, m, one)
				}
				for range 1 + other.Intn(12) {
					b.lay(t, m, other)
				}
				if turn%m.tick == 0 {
					a.tick(t)
					b.tick(t)
				}
				if turn%m.mark == 0 {
					a.mark(t, one)
					b.mark(t, other)
					if a.last.root != b.last.root {
						t.Errorf("%s: the roots are %v and %v", what, a.last.root, b.last.root)
					}
					if turn%2 == 0 {
						a.f.Settle()
						b.f.Settle()
						// The other one is opened anew, behind a crash; it has nothing in memory now, as the first one has not.
						b.scene = b.scene.afterCrash(t, rand.New(rand.NewSource(int64(turn))))
						b.f = b.scene.opened(t, b.last.root, b.last.extra)
					}
				}
				wantSame(t, what, a.scene, b.scene)
				if !slices.Equal(a.f.Sizes(), b.f.Sizes()) {
					t.Errorf("%s: Sizes: %v and %v", what, a.f.Sizes(), b.f.Sizes())
				}
				if t.Failed() {
					return
				}
			}
		})
	}
}

// P16.8: whole disks: two forests that are told the same, call by call, with calls that fail among them.
func TestDisksOfTheSame(t *testing.T) {
	a, b := rich(t), rich(t)
	for _, x := range []*twin{a, b} {
		x.lay(t, 3, heavy(40, 0, "k"))
		x.tick(t, "the same", 20)
		x.checkpoint(t, "the same", 20, "xyz")
		x.checkpoint(t, "the same", 0, "xyz")
		x.settle(t, "the same")
		x.lay(t, 3, heavy(40, 20, "l"))
		x.tick(t, "the same", 21)
		var filled []api.Ref
		x.both(func(s *scene) { filled = s.fill(t, 5) })
		x.lay(t, 2, heavy(40, 20, "l"))
		x.tick(t, "without room", 22)
		x.letGo(t, filled)
		x.tick(t, "with room", 22)
		x.checkpoint(t, "with room", 24, "more")
	}
	one, e := a.d.Read(0, a.d.Sectors())
	ok(t, "Read", e)
	other, e := b.d.Read(0, b.d.Sectors())
	ok(t, "Read", e)
	if string(one) != string(other) {
		t.Error("the disks have other bytes")
	}
	wantSame(t, "the same", a.scene, b.scene)
}

// deeds takes numbers from bytes, noughts behind their end.
type deeds struct{ b []byte }

func (s *deeds) next(below int) int {
	if len(s.b) == 0 {
		return 0
	}
	x := int(s.b[0])
	s.b = s.b[1:]
	return x % below
}

// items are some of a tree: keys near one another, or large values.
func (s *deeds) items(name string) []item {
	var l []item
	at, wide := s.next(90), 1+s.next(4)
	for range 1 + s.next(40) {
		q := item{key: fmt.Sprintf("%03d", at), value: name}
		if wide == 4 {
			q = item{key: fmt.Sprintf("%032d", at), value: string(make([]byte, 120)) + name}
		}
		if s.next(4) == 0 {
			q.value, q.gone = "", true
		}
		l = append(l, q)
		at = (at + wide) % 120
	}
	return l
}

// play is a script's twins, and the roots that they told.
type play struct {
	*twin
	roots []api.Ref
	op    int
}

// mark makes a checkpoint of both.
func (p *play) mark(t testing.TB, by *deeds) {
	t.Helper()
	extra := string(make([]byte, by.next(3)*by.next(256)*by.next(20)))
	if root, e := p.checkpoint(t, "a script", p.op, extra); e == api.OK {
		p.roots = append(p.roots, root)
	}
}

// broken does something with disks that go out, and come back as they are.
func (p *play) broken(t testing.TB, by *deeds) {
	t.Helper()
	n := by.next(40)
	p.both(func(s *scene) { s.fuse(t, n) })
	if by.next(2) == 0 {
		p.tick(t, "a script, fused", p.op)
	} else {
		p.mark(t, by)
	}
	p.both(func(s *scene) { s.back(t) })
}

// harmed turns a byte of both, looks and ticks, and turns it back.
func (p *play) harmed(t testing.TB, by *deeds) {
	t.Helper()
	ref, at := api.Ref{Address: 1 + by.next(p.blocks)}, 4*by.next(256)
	p.both(func(s *scene) { s.turn(t, ref, at) })
	p.asked(t, "a script, turned", by.next(7)-by.next(2), "000", "050")
	if by.next(2) == 0 {
		p.tick(t, "a script, turned", p.op)
	}
	p.anywhere(t, by)
	p.both(func(s *scene) { s.turn(t, ref, at) })
}

// anywhere opens what some root names, by clones.
func (p *play) anywhere(t testing.TB, by *deeds) {
	t.Helper()
	root := api.Ref{Address: by.next(p.blocks + 2), Stamp: by.next(p.op + 1)}
	if len(p.roots) > 0 && by.next(4) > 0 {
		root = p.roots[len(p.roots)-1-by.next(len(p.roots))]
	}
	a, b := p.scene.clone(t), p.p.scene.clone(t)
	// Both have written the same, in calls that failed, too: so what is free there has the same bytes.
	if x := opens(t, "a script", a, b, root); x != nil {
		x.asked(t, "a script, opened", by.next(6), "000", "050")
	}
}

// deed does one deed.
func (p *play) deed(t testing.TB, by *deeds) {
	t.Helper()
	p.op++
	switch by.next(16) {
	case 0, 1, 2, 3, 4:
		p.lay(t, by.next(6), by.items(fmt.Sprint(p.op)))
	case 5, 6, 7, 8:
		p.tick(t, "a script", p.op)
	case 9, 10:
		p.mark(t, by)
	case 11:
		p.settle(t, "a script")
	case 12:
		p.broken(t, by)
	case 13:
		p.harmed(t, by)
	case 14:
		if len(p.roots) > 0 && by.next(3) == 0 {
			p.anew(t, p.roots[len(p.roots)-1])
		}
		p.anywhere(t, by)
	default:
		p.asked(t, "a script", by.next(8)-1, "000", "030", "099")
		if by.next(8) == 0 {
			a := 1 + by.next(p.blocks)
			p.both(func(s *scene) { s.g.Release(api.Ref{Address: a}) })
		}
	}
}

// anew opens both anew at a root, if that is there.
func (p *play) anew(t testing.TB, root api.Ref) {
	t.Helper()
	if x := opens(t, "a script, anew", p.scene, p.p.scene, root); x != nil {
		p.twin = x
	}
}

// run does a script's deeds, and wants each call to tell what the chapter's words tell.
func run(t testing.TB, blocks int, script []byte) {
	t.Helper()
	p := &play{twin: twins(t, blocks)}
	for by := (&deeds{script}); len(by.b) > 0 && !t.Failed(); {
		p.deed(t, by)
	}
	for tree := range 6 {
		p.asked(t, "a script's end", tree, "000", "040", "077")
	}
}

// P16.1 to P16.8: any deeds, on grids of many blocks and of few.
func TestScripts(t *testing.T) {
	t.Parallel()
	chance := rand.New(rand.NewSource(1680))
	for i := range 60 {
		script := make([]byte, 2500)
		chance.Read(script)
		blocks := []int{400, 150, 60, 25}[i%4]
		t.Run(fmt.Sprint(i, " on ", blocks), func(t *testing.T) {
			t.Parallel()
			run(t, blocks, script)
		})
	}
}

// FuzzForest looks for deeds behind which a forest is not as it must be.
func FuzzForest(f *testing.F) {
	f.Add(byte(200), slices.Repeat([]byte{0, 1, 30, 1, 39, 1, 2, 3, 1, 2, 3, 5, 5, 9, 1, 2, 3, 11, 12, 7, 1}, 20))
	f.Add(byte(20), slices.Repeat([]byte{2, 4, 30, 0, 35, 1, 1, 1, 1, 0, 6, 10, 2, 2, 1}, 20))
	f.Add(byte(90), slices.Repeat([]byte{3, 0, 7, 2, 10, 1, 13, 5, 8, 0, 9, 1, 1, 14, 0, 2, 1}, 30))
	f.Fuzz(func(t *testing.T, blocks byte, script []byte) {
		run(t, 1+int(blocks), script[:min(len(script), 2500)])
	})
}
