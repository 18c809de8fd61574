package forest_test

import (
	"fmt"
	"slices"
	"sort"
	"testing"

	"exchequer/api"
	"exchequer/forest"
	"exchequer/level"
	"exchequer/table"
)

// grove is a forest by the chapter's words, on a scene of its own: its trees' tables in memory are maps.
type grove struct {
	*scene
	trees [6]struct {
		memory map[string]item
		levels [][]api.Run
	}
	last []api.Ref
}

// plant is a grove without pairs.
func plant(s *scene) *grove {
	p := &grove{scene: s}
	for i := range p.trees {
		p.trees[i].memory, p.trees[i].levels = map[string]item{}, make([][]api.Run, 4)
	}
	return p
}

// sorted are the items of a map, by their keys.
func sorted(m map[string]item) []item {
	var l []item
	for _, p := range m {
		l = append(l, p)
	}
	sort.Slice(l, func(i, j int) bool { return l[i].key < l[j].key })
	return l
}

func (p *grove) lay(tree int, q item) api.Errno {
	if tree < 0 || tree > 5 || len(q.key) < 1 || len(q.key) > 32 || len(q.value) > 128 {
		return api.ErrArg
	}
	m := p.trees[tree].memory
	if _, is := m[q.key]; !is && len(m) == 64 {
		return api.ErrFull
	}
	m[q.key] = q
	return api.OK
}

func (p *grove) get(tree int, key string) (string, api.Errno) {
	if tree < 0 || tree > 5 {
		return "", api.ErrArg
	}
	q, is := p.trees[tree].memory[key]
	if !is {
		r, e := level.Get(p.g, p.trees[tree].levels, []byte(key))
		if e != api.OK {
			return "", e
		}
		q = item{key, string(r.Value), r.Gone}
	}
	if q.gone {
		return "", api.ErrMissing
	}
	return q.value, api.OK
}

func (p *grove) scan(tree int, from, to string, n int) ([]item, api.Errno) {
	if tree < 0 || tree > 5 || n < 1 || n > 1000 {
		return nil, api.ErrArg
	}
	lists, e := level.Lists(p.g, p.trees[tree].levels, []byte(from), []byte(to))
	if e != api.OK {
		return nil, e
	}
	all := [][]item{between(sorted(p.trees[tree].memory), from, to)}
	for _, l := range lists {
		all = append(all, items(l))
	}
	there, count := map[string]item{}, 0
	for _, l := range all {
		for _, q := range l {
			if _, is := there[q.key]; !is {
				there[q.key] = q
			}
		}
		count += len(l)
	}
	if len(all) > 32 || count > 4096 {
		return nil, api.ErrLong
	}
	l := slices.DeleteFunc(sorted(there), func(q item) bool { return q.gone })
	return l[:min(n, len(l))], api.OK
}

// between are the items of a list that are from one on, and below to.
func between(l []item, from, to string) []item {
	return slices.DeleteFunc(slices.Clone(l), func(q item) bool { return q.key < from || to != "" && q.key >= to })
}

// attempt does what may fail: if it does, all is as it was.
func (p *grove) attempt(t testing.TB, do func() api.Errno) api.Errno {
	t.Helper()
	was, free := *p, p.g.Free()
	e := do()
	if e != api.OK {
		*p = was
		ok(t, "Reset", p.g.Reset(free))
	}
	return e
}

// writeOut writes a tree out.
func (p *grove) writeOut(tree, op int) api.Errno {
	x := &p.trees[tree]
	r, e := table.Build(p.g, pairs(sorted(x.memory)), op)
	if e != api.OK {
		return e
	}
	x.memory = map[string]item{}
	x.levels, e = level.Add(x.levels, r)
	return e
}

func (p *grove) tick(t testing.TB, op int) api.Errno {
	t.Helper()
	if op < 1 || op > most {
		return api.ErrArg
	}
	return p.attempt(t, func() api.Errno {
		for tree := range 6 {
			if len(p.trees[tree].memory) >= 32 {
				if e := p.writeOut(tree, op); e != api.OK {
					return e
				}
			}
			l, _, e := level.Step(p.g, p.trees[tree].levels, op)
			if e != api.OK {
				return e
			}
			p.trees[tree].levels = l
		}
		return api.OK
	})
}

func (p *grove) checkpoint(t testing.TB, op int, extra string) (api.Ref, api.Errno) {
	t.Helper()
	if op < 1 || op > most {
		return api.Ref{}, api.ErrArg
	}
	if len(extra) > 12900 {
		return api.Ref{}, api.ErrLong
	}
	var root api.Ref
	e := p.attempt(t, func() api.Errno {
		for tree := range 6 {
			if len(p.trees[tree].memory) > 0 {
				if e := p.writeOut(tree, op); e != api.OK {
					return e
				}
			}
		}
		for _, ref := range p.last {
			if e := p.g.Release(ref); e != api.OK {
				return e
			}
		}
		p.last = nil
		var e api.Errno
		root, e = p.writeCheckpoint(op, extra)
		if e != api.OK {
			return e
		}
		return p.g.Flush()
	})
	if e != api.OK {
		return api.Ref{}, e
	}
	return root, api.OK
}

// leaf is what a block of a checkpoint has, but the ref of the next part's.
type leaf struct {
	refs []api.Ref
	body string
}

// writeLeaves writes the parts from one on, the last one first, and tells the refs of the first one: none, if there are no parts.
func (p *grove) writeLeaves(kind, op int, l []leaf) ([]api.Ref, api.Errno) {
	if len(l) == 0 {
		return nil, api.OK
	}
	next, e := p.writeLeaves(kind, op, l[1:])
	if e != api.OK {
		return nil, e
	}
	ref, e := p.g.Write(kind, slices.Concat(l[0].refs, next), []byte(l[0].body), op)
	if e != api.OK {
		return nil, e
	}
	p.last = append(p.last, ref)
	return []api.Ref{ref}, api.OK
}

// sized is a text with its number of bytes ahead.
func sized(b []byte) string { return string([]byte{byte(len(b))}) + string(b) }

// leavesOfTables are the parts of the tables.
func (p *grove) leavesOfTables() []leaf {
	var l []leaf
	for tree := range 6 {
		for at, runs := range p.trees[tree].levels {
			for _, r := range runs {
				text := string([]byte{byte(tree), byte(at), byte(r.Count)}) + sized(r.First) + sized(r.Last)
				if i := len(l) - 1; i < 0 || len(l[i].refs) == 15 || len(l[i].body+text) > 860 {
					l = append(l, leaf{})
				}
				i := len(l) - 1
				l[i].refs = append(l[i].refs, r.Root)
				l[i].body += text
			}
		}
	}
	return l
}

// leavesOfExtra are the parts of the extra bytes.
func leavesOfExtra(extra string) []leaf {
	var l []leaf
	for ; len(extra) > 0; extra = extra[min(len(extra), 860):] {
		l = append(l, leaf{body: extra[:min(len(extra), 860)]})
	}
	return l
}

// freeThen is a set behind which two more blocks are taken, and all is settled.
func freeThen(set []byte) []byte {
	l := hows(set)
	for range 2 {
		if i := slices.Index(l[1:], 0); i >= 0 {
			l[1+i] = 1
		}
	}
	for i, how := range l {
		if how == 2 {
			l[i] = 0
		}
	}
	return setOf(l)
}

// rootBody is the body of a root.
func rootBody(op int, manifest, extra bool) string {
	b := []byte{byte(op), byte(op / 256), byte(op / 65536), byte(op / 16777216), 0}
	if manifest {
		b[4]++
	}
	if extra {
		b[4] += 2
	}
	return string(b)
}

// writeCheckpoint writes a checkpoint's blocks.
func (p *grove) writeCheckpoint(op int, extra string) (api.Ref, api.Errno) {
	x, e := p.writeLeaves(api.KindExtra, op, leavesOfExtra(extra))
	if e != api.OK {
		return api.Ref{}, e
	}
	m, e := p.writeLeaves(api.KindManifest, op, p.leavesOfTables())
	if e != api.OK {
		return api.Ref{}, e
	}
	f, e := p.writeLeaves(api.KindFree, op, []leaf{{body: string(freeThen(p.g.Free()))}})
	if e != api.OK {
		return api.Ref{}, e
	}
	r, e := p.writeLeaves(api.KindRoot, op, []leaf{{slices.Concat(f, m, x), rootBody(op, len(m) > 0, len(x) > 0)}})
	if e != api.OK {
		return api.Ref{}, e
	}
	return r[0], api.OK
}

// open tells the grove of a root, on the scene's grid, and the extra bytes.
func (s *scene) open(root api.Ref) (*grove, string, api.Errno) {
	p := plant(s)
	b, e := s.g.Read(root)
	if e != api.OK {
		return nil, "", e
	}
	if b.Kind != api.KindRoot || len(b.Body) != 5 {
		return nil, "", api.ErrFaulty
	}
	m, x := b.Body[4]%2 == 1, b.Body[4]/2%2 == 1
	rest := b.Refs
	var first [2][]api.Ref
	for i, is := range []bool{true, m, x} {
		if is && len(rest) == 0 {
			return nil, "", api.ErrFaulty
		}
		if is && i > 0 {
			first[i-1] = rest[:1]
		}
		if is {
			rest = rest[1:]
		}
	}
	if len(rest) > 0 || string(b.Body) != rootBody(root.Stamp, m, x) {
		return nil, "", api.ErrFaulty
	}
	f, e := s.g.Read(b.Refs[0])
	if e != api.OK {
		return nil, "", e
	}
	good := f.Kind == api.KindFree && len(f.Refs) == 0
	manifests, e := p.readLeaves(first[0], 64, &good, p.readTables)
	if e != api.OK {
		return nil, "", e
	}
	extra := ""
	extras, e := p.readLeaves(first[1], 16, &good, func(b api.GridBlock) ([]api.Ref, bool) {
		extra += string(b.Body)
		return b.Refs, b.Kind == api.KindExtra && len(b.Body) > 0 && (len(b.Refs) == 0 || len(b.Body) == 860)
	})
	if e != api.OK {
		return nil, "", e
	}
	for _, x := range p.trees {
		good = good && level.Check(x.levels) == api.OK
	}
	if !good || s.g.Reset(f.Body) != api.OK {
		return nil, "", api.ErrFaulty
	}
	p.last = slices.Concat(extras, manifests, []api.Ref{b.Refs[0], root})
	return p, extra, api.OK
}

// readLeaves reads the blocks of a chain, at most so many, and tells their refs, the last one first.
func (p *grove) readLeaves(next []api.Ref, most int, good *bool, take func(api.GridBlock) ([]api.Ref, bool)) ([]api.Ref, api.Errno) {
	var l []api.Ref
	for len(next) > 0 {
		if len(next) > 1 || len(l) == most {
			*good = false
			break
		}
		b, e := p.g.Read(next[0])
		if e != api.OK {
			return nil, e
		}
		l = append([]api.Ref{next[0]}, l...)
		var is bool
		if next, is = take(b); !is {
			*good = false
			break
		}
	}
	return l, api.OK
}

// readTables takes in a manifest block.
func (p *grove) readTables(b api.GridBlock) ([]api.Ref, bool) {
	s := string(b.Body)
	n := 0
	for ; len(s) > 0; n++ {
		if len(s) < 4 || len(s) < 5+int(s[3]) {
			return nil, false
		}
		end := 4 + int(s[3])
		last := end + 1 + int(s[end])
		if len(s) < last || s[0] > 5 || s[1] > 3 || n == 15 || n >= len(b.Refs) {
			return nil, false
		}
		l := &p.trees[s[0]].levels[s[1]]
		*l = append(*l, api.Run{Root: b.Refs[n], Count: int(s[2]), First: []byte(s[4:end]), Last: []byte(s[end+1 : last])})
		s = s[last:]
	}
	return b.Refs[n:], b.Kind == api.KindManifest
}

// sizes are a grove's.
func (p *grove) sizes() []int {
	var l []int
	for _, x := range p.trees {
		l = append(l, len(x.memory))
		for _, runs := range x.levels {
			l = append(l, len(runs))
		}
	}
	return l
}

// twin is a forest beside a grove, on scenes of which one is a clone of the other.
type twin struct {
	*scene
	f     *forest.Forest
	p     *grove
	quiet bool // whether they are not held against one another for now
}

// twins are a forest and a grove without pairs, with so many blocks each.
func twins(t testing.TB, blocks int) *twin {
	t.Helper()
	s := begin(t, blocks)
	return &twin{scene: s, f: planted(t, s), p: plant(begin(t, blocks))}
}

// lay puts items into a tree of both.
func (x *twin) lay(t testing.TB, tree int, l []item) {
	t.Helper()
	for _, q := range l {
		var e api.Errno
		if q.gone {
			e = x.f.Remove(tree, []byte(q.key))
		} else {
			e = x.f.Put(tree, []byte(q.key), []byte(q.value))
		}
		want(t, fmt.Sprintf("%d: %v", tree, q), e, x.p.lay(tree, q))
	}
}

func (x *twin) tick(t testing.TB, what string, op int) api.Errno {
	t.Helper()
	e := x.p.tick(t, op)
	want(t, fmt.Sprintf("%s: Tick(%d)", what, op), x.f.Tick(op), e)
	x.alike(t, fmt.Sprintf("%s: behind Tick(%d)", what, op))
	return e
}

func (x *twin) checkpoint(t testing.TB, what string, op int, extra string) (api.Ref, api.Errno) {
	t.Helper()
	root, e := x.p.checkpoint(t, op, extra)
	wantCheckpoint(t, what, x.f, op, extra, root, e)
	x.alike(t, fmt.Sprintf("%s: behind Checkpoint(%d, %d bytes)", what, op, len(extra)))
	if e == api.OK && len(x.d.Loose()) > 0 {
		t.Errorf("%s: behind Checkpoint the sectors %v are loose", what, x.d.Loose())
	}
	return root, e
}

func (x *twin) settle(t testing.TB, what string) {
	t.Helper()
	n := x.p.g.Settle()
	if got := x.f.Settle(); got != n {
		t.Errorf("%s: Settle: %d, want %d", what, got, n)
	}
	x.alike(t, what+": behind Settle")
}

// both does something to both scenes.
func (x *twin) both(do func(*scene)) {
	do(x.scene)
	do(x.p.scene)
}

// alike wants a forest to be as its grove: its sizes, its set, what is wanted, and all blocks but those that are free.
func (x *twin) alike(t testing.TB, what string) {
	t.Helper()
	if x.quiet {
		return
	}
	if got := x.f.Sizes(); !slices.Equal(got, x.p.sizes()) {
		t.Errorf("%s: Sizes: %v, want %v", what, got, x.p.sizes())
	}
	if got, must := x.g.Wanted(), x.p.g.Wanted(); !slices.Equal(got, must) {
		t.Errorf("%s: wanted are %v, want %v", what, got, must)
	}
	got, must := hows(x.g.Free()), hows(x.p.g.Free())
	if !slices.Equal(got, must) {
		t.Errorf("%s: the blocks are %v, want %v", what, got, must)
		return
	}
	mine, its := x.bytesOf(t), x.p.bytesOf(t)
	for i, how := range got[1:] {
		if at := 1024 * i; how != 0 && mine[at:at+1024] != its[at:at+1024] {
			t.Errorf("%s: the block %d is not as it must be", what, i+1)
		}
	}
}

// asked wants a forest to tell what its grove does of keys of a tree, and of some spans.
func (x *twin) asked(t testing.TB, what string, tree int, keys ...string) {
	t.Helper()
	for _, key := range keys {
		value, e := x.p.get(tree, key)
		wantGet(t, what, x.f, tree, key, value, e)
	}
	for i, from := range append([]string{""}, keys...) {
		for _, to := range append([]string{""}, keys...)[i:] {
			for _, n := range []int{1, 3, 1000} {
				l, e := x.p.scan(tree, from, to, n)
				wantScan(t, what, x.f, tree, from, to, n, l, e)
			}
		}
	}
}

// goOn wants a forest and its grove to go on alike, which tells of what can't be seen otherwise: which blocks are the last checkpoint's.
func (x *twin) goOn(t testing.TB, what string, op int) {
	t.Helper()
	for tree := range 6 {
		x.asked(t, what, tree)
	}
	x.alike(t, what+", as it is")
	x.settle(t, what)
	x.lay(t, 2, said("m1 n- o3"))
	x.checkpoint(t, what, op, "on")
	x.settle(t, what)
	x.lay(t, 0, numbered(40, 17, what))
	x.lay(t, 5, said("a-"))
	x.tick(t, what, op+1)
	x.checkpoint(t, what, op+1, "")
	for tree := range 6 {
		x.asked(t, what, tree)
	}
}
