package forest_test

import (
	"fmt"
	"math/rand"
	"slices"
	"strings"
	"testing"

	"exchequer/api"
)

// ripe are twins behind a checkpoint, with tables in three trees and two levels, of which two are newer than the others, in two parts, and two parts of extra bytes; and the recipe of that checkpoint.
func ripe(t testing.TB) (*twin, recipe) {
	t.Helper()
	x := twins(t, 250)
	for i := range 6 {
		for _, tree := range []int{0, 2, 5} {
			x.lay(t, tree, []item{{fmt.Sprintf("%032d", i), "v", false}, {fmt.Sprintf("%031d", 7*i+7), "w", false}})
		}
		x.checkpoint(t, "ripe", 1+i, "")
		x.settle(t, "ripe")
		if i == 4 {
			x.lay(t, 5, heavy(64, 40, "x"))
			x.lay(t, 0, heavy(64, 40, "x"))
			x.tick(t, "ripe", 6)
		}
	}
	for i := range 3 {
		x.lay(t, 2, heavy(60, 100*i, "y"))
		x.lay(t, 5, heavy(60, 100*i, "y"))
		x.tick(t, "ripe", 8+i)
		x.settle(t, "ripe")
	}
	root, e := x.checkpoint(t, "ripe", 20, strings.Repeat("extra", 300))
	ok(t, "Checkpoint", e)
	r := x.told(t, root)
	if len(r.manifest) != 2 || len(r.extra) != 2 {
		t.Fatalf("%d parts of the manifest, %d of the extra bytes: %v", len(r.manifest), len(r.extra), x.f.Sizes())
	}
	return x, r
}

// bench are the scenes of ripe twins, and their recipe.
type bench struct {
	x *twin
	r recipe
}

func newBench(t testing.TB) bench {
	t.Helper()
	x, r := ripe(t)
	return bench{x, r}
}

// cooked opens a recipe that was changed, which must tell an error, and wants that to be told on the forest's own set, and on one of free blocks.
func (b bench) cooked(t testing.TB, what string, wrong api.Errno, change func(*recipe)) {
	t.Helper()
	r := b.r.clone()
	change(&r)
	a, c := b.x.scene.clone(t), b.x.p.scene.clone(t)
	root := a.cook(t, r, 30)
	if got := c.cook(t, r, 30); got != root {
		t.Fatalf("%s: the roots are %v and %v", what, root, got)
	}
	for _, l := range [][2]*scene{{a.anew(t), c.anew(t)}, {a, c}} {
		_, _, e := l[1].clone(t).open(root)
		want(t, what+", by the words", e, wrong)
		if y := opens(t, what, l[0], l[1], root); y != nil && l[0] == a {
			for tree := range 6 {
				y.asked(t, what, tree, "00000", strings.Repeat("0", 31)+"3")
			}
			y.goOn(t, what, 40)
		}
	}
}

// sound wants a recipe that was changed to be opened, faulty wants it to be ErrFaulty.
func (b bench) sound(t testing.TB, what string, change func(*recipe)) {
	t.Helper()
	b.cooked(t, what, api.OK, change)
}

func (b bench) faulty(t testing.TB, what string, change func(*recipe)) {
	t.Helper()
	b.cooked(t, what, api.ErrFaulty, change)
}

// P16.5: a root that is of another kind, says another op than its stamp, has other Refs, or a last byte that says otherwise than these do.
func TestRootsThatAreNotAsTheyShouldBe(t *testing.T) {
	b := newBench(t)
	b.sound(t, "as it was", func(r *recipe) {})
	// The free ones' block is written behind the chains, the root behind that.
	s := b.x.scene.clone(t)
	root := s.cook(t, b.r, 30)
	x, e := s.g.Read(root)
	ok(t, "Read", e)
	as := func(kind int, refs []api.Ref, body string) func(*recipe) {
		return func(r *recipe) { r.root = piece{kind, refs, body} }
	}
	body := string(x.Body)
	b.sound(t, "by hand", as(api.KindRoot, x.Refs, body))
	for kind := 1; kind < 16; kind++ {
		if kind != api.KindRoot {
			b.faulty(t, fmt.Sprint("the kind ", kind), as(kind, x.Refs, body))
		}
	}
	for _, op := range []int{0, 1, 29, 31, 30 + 256, 30 << 8, 30 << 24, 30 + 1<<16, 30 + 1<<24, most} {
		b.faulty(t, fmt.Sprint("the op ", op), as(api.KindRoot, x.Refs, rootBody(op, true, true)))
	}
	for _, n := range []int{0, 1, 3, 4} {
		b.faulty(t, fmt.Sprint("a body of ", n, " bytes"), as(api.KindRoot, x.Refs, body[:n]))
	}
	for _, more := range []string{"\x00", "\x03", "\x00\x00\x00", strings.Repeat("\x00", 855)} {
		b.faulty(t, fmt.Sprint("a body of ", 5+len(more), " bytes"), as(api.KindRoot, x.Refs, body+more))
	}
	free, m, e1 := x.Refs[0], x.Refs[1], x.Refs[2]
	for has := range 256 {
		for _, c := range []struct {
			refs  []api.Ref
			right bool
		}{
			{nil, false}, {[]api.Ref{free}, has == 0}, {[]api.Ref{free, m}, has == 1}, {[]api.Ref{free, e1}, has == 2}, {[]api.Ref{free, m, e1}, has == 3},
			{[]api.Ref{m, free, e1}, false}, {[]api.Ref{free, e1, m}, false}, {[]api.Ref{free, m, e1, e1}, false}, {[]api.Ref{free, free, m, e1}, false},
			{[]api.Ref{m, e1}, false}, {slices.Repeat([]api.Ref{free}, 16), false}, {[]api.Ref{root, m, e1}, false}, {[]api.Ref{free, root, e1}, false}, {[]api.Ref{free, m, root}, false},
		} {
			if c.right || has < 5 || has%8 == len(c.refs) {
				wrong := api.ErrFaulty
				if c.right {
					wrong = api.OK
				}
				b.cooked(t, fmt.Sprint("the last byte ", has, ", the Refs ", c.refs), wrong, as(api.KindRoot, c.refs, body[:4]+string([]byte{byte(has)})))
			}
		}
	}
	b.faulty(t, "four Refs, of which one is not of the grid", as(api.KindRoot, []api.Ref{free, {Address: 251, Stamp: 30}, e1, e1}, body))
	for i, refs := range [][]api.Ref{{{Address: 251, Stamp: 30}, m, e1}, {free, {Address: 251, Stamp: 30}, e1}, {free, m, {Address: 251, Stamp: 30}}} {
		b.cooked(t, fmt.Sprint("the ref ", i, " is not of the grid"), api.ErrArg, as(api.KindRoot, refs, body))
		b.faulty(t, fmt.Sprint("the ref ", i, " is not of the grid, and the kind is another one"), as(api.KindFree, refs, body))
		refs[i] = api.Ref{Address: 250, Stamp: 30}
		b.faulty(t, fmt.Sprint("the ref ", i, " is not there"), as(api.KindRoot, refs, body))
		refs[i] = api.Ref{Address: x.Refs[i].Address, Stamp: 29}
		b.faulty(t, fmt.Sprint("the ref ", i, " has another stamp"), as(api.KindRoot, refs, body))
	}
}

// P16.5: stamps of blocks but the root's are not looked at, as long as the refs that name them say so.
func TestStampsOfOtherBlocks(t *testing.T) {
	s := begin(t, 30)
	free := s.write(t, api.KindFree, nil, string(setOf(make([]int, 31))), 7)
	extra := s.write(t, api.KindExtra, nil, "xyz", 99)
	root := s.write(t, api.KindRoot, []api.Ref{free, extra}, rootBody(8, false, true), 8)
	s.opened(t, root, "xyz")
	s.wantSet(t, "opened", nil, nil)
	zero := s.write(t, api.KindRoot, []api.Ref{free}, rootBody(0, false, false), 0)
	c := &scene{s.d.Clone(), s.g, s.blocks}
	opens(t, "the stamp 0", s, c, zero)
}

// P16.5: the block of free ones: of another kind, with Refs, or with bytes that are no set's, or one's of another number of blocks.
func TestFreeBlocksThatAreNotAsTheyShouldBe(t *testing.T) {
	b := newBench(t)
	s := b.x.scene.clone(t)
	s.cook(t, recipe{extra: b.r.extra, manifest: b.r.manifest}, 30)
	set := string(freeThen(b.x.g.Free()))
	as := func(kind int, refs []api.Ref, body string) func(*recipe) {
		return func(r *recipe) { r.free = piece{kind, refs, body} }
	}
	b.sound(t, "another set", as(api.KindFree, nil, set))
	for kind := 1; kind < 16; kind++ {
		if kind != api.KindFree {
			b.faulty(t, fmt.Sprint("the kind ", kind), as(kind, nil, set))
		}
	}
	for n := 1; n < 17; n += 5 {
		b.faulty(t, fmt.Sprint(n, " Refs"), as(api.KindFree, slices.Repeat(at(20, 1), n), set))
	}
	free := make([]int, 251)
	b.sound(t, "all free", as(api.KindFree, nil, string(setOf(free))))
	for i := range free {
		free[i] = 1
	}
	free[0] = 0
	b.sound(t, "all taken but one", as(api.KindFree, nil, string(setOf(append(free[:250:250], 0)))))
	b.sound(t, "one let go", as(api.KindFree, nil, string(setOf(append(free[:250:250], 2)))))
	b.faulty(t, "a byte fewer", as(api.KindFree, nil, set[:len(set)-1]))
	b.faulty(t, "a byte more", as(api.KindFree, nil, set+"\x00"))
	b.faulty(t, "no bytes", as(api.KindFree, nil, ""))
	b.faulty(t, "one byte", as(api.KindFree, nil, "\xfa"))
	b.faulty(t, "a block fewer", as(api.KindFree, nil, string(setOf(free[:250]))))
	b.faulty(t, "a block more", as(api.KindFree, nil, string(setOf(make([]int, 252)))))
	b.faulty(t, "no blocks", as(api.KindFree, nil, "\x00\x00"))
	b.faulty(t, "a bit behind the last block", as(api.KindFree, nil, set[:len(set)-1]+string([]byte{set[len(set)-1] | 0x40})))
	b.faulty(t, "a block that is no way", as(api.KindFree, nil, set[:10]+"\xff"+set[11:]))
}

// entry is a table's bytes in a manifest.
func entry(tree, level, count int, first, last string) string {
	return string([]byte{byte(tree), byte(level), byte(count)}) + sized([]byte(first)) + sized([]byte(last))
}

// entries parts a manifest's body.
func entries(s string) []string {
	var l []string
	for len(s) > 0 {
		end := 5 + int(s[3]) + int(s[4+s[3]])
		l, s = append(l, s[:end]), s[end:]
	}
	return l
}

// laid has one manifest part for each list of tables, all of which have the Root of the recipe's first one.
func laid(parts ...[]string) func(*recipe) {
	return func(r *recipe) {
		root := r.manifest[0].refs[0]
		r.manifest = nil
		for _, l := range parts {
			r.manifest = append(r.manifest, piece{api.KindManifest, slices.Repeat([]api.Ref{root}, len(l)), strings.Join(l, "")})
		}
	}
}

// P16.5: a manifest block of another kind, with Refs that are not as many as it has tables, and one, with a body that is cut or has more.
func TestManifestsThatAreNotAsTheyShouldBe(t *testing.T) {
	b := newBench(t)
	for i := range 2 {
		for kind := 1; kind < 16; kind++ {
			if kind != api.KindManifest {
				b.faulty(t, fmt.Sprint("the part ", i, " is of the kind ", kind), func(r *recipe) { r.manifest[i].kind = kind })
			}
		}
		n := len(b.r.manifest[i].refs)
		// Of the first part the next one's stands for the last table's Root then, which is not read.
		b.cooked(t, "a ref fewer", []api.Errno{api.OK, api.ErrFaulty}[i], func(r *recipe) { r.manifest[i].refs = r.manifest[i].refs[1:] })
		b.faulty(t, "no refs", func(r *recipe) { r.manifest[i].refs = nil })
		b.faulty(t, "a ref more", func(r *recipe) { r.manifest[i].refs = append(r.manifest[i].refs, r.manifest[i].refs[0]) })
		b.faulty(t, "two refs more", func(r *recipe) {
			r.manifest[i].refs = append(r.manifest[i].refs, r.manifest[i].refs[0], r.manifest[i].refs[0])
		})
		b.faulty(t, "a table fewer", func(r *recipe) { r.manifest[i].body = strings.Join(entries(r.manifest[i].body)[1:], "") })
		if n < 2 {
			t.Errorf("the part %d has %d tables", i, n)
		}
		body := b.r.manifest[i].body
		for cut := 1; cut < len(body); cut += 1 + cut/30 {
			b.faulty(t, fmt.Sprint("the part ", i, " is cut by ", cut), func(r *recipe) { r.manifest[i].body = body[:len(body)-cut] })
			b.faulty(t, fmt.Sprint("the part ", i, " is cut in front by ", cut), func(r *recipe) { r.manifest[i].body = body[cut:] })
		}
		if room := 860 - len(body); room > 8 {
			for n := 1; n < 9; n++ {
				b.faulty(t, fmt.Sprint("the part ", i, " has ", n, " noughts more"), func(r *recipe) { r.manifest[i].body += strings.Repeat("\x00", n) })
			}
			b.cooked(t, "a table more", []api.Errno{api.OK, api.ErrFaulty}[i], func(r *recipe) { r.manifest[i].body += entry(1, 0, 1, "a", "b") })
		}
	}
	b.cooked(t, "the next part is not of the grid", api.ErrArg, func(r *recipe) {
		r.manifest[1].refs = append(r.manifest[1].refs, api.Ref{Address: 251})
	})
	for n := 1; n < 4; n++ {
		// What a body that is cut names as the next part is not told.
		b.faulty(t, fmt.Sprint(n, " noughts more, and a ref that is not of the grid"), func(r *recipe) {
			r.manifest[1].body += strings.Repeat("\x00", n)
			r.manifest[1].refs = append(r.manifest[1].refs, r.manifest[1].refs[0], api.Ref{Address: 251})
		})
	}
	b.faulty(t, "the next part is not there", func(r *recipe) { r.manifest[1].refs = append(r.manifest[1].refs, api.Ref{Address: 250}) })
	b.faulty(t, "the next part is the block of free ones", func(r *recipe) {
		free := b.x.p.last[len(b.x.p.last)-2]
		r.manifest[1].refs = append(r.manifest[1].refs, free)
	})
}

// P16.5: tables of trees or levels that are not, or that levels may not have.
func TestTablesThatMayNotBe(t *testing.T) {
	b := newBench(t)
	long := strings.Repeat("k", 32)
	for _, tree := range []int{0, 1, 5, 6, 7, 128, 255} {
		for _, level := range []int{0, 1, 3, 4, 5, 128, 255} {
			for _, count := range []int{0, 1, 64, 65, 255} {
				wrong := api.ErrFaulty
				if tree < 6 && level < 4 && count > 0 {
					wrong = api.OK
				}
				if wrong == api.ErrFaulty || count != 64 {
					b.cooked(t, fmt.Sprint("tree ", tree, ", level ", level, ", count ", count), wrong, laid([]string{entry(tree, level, count, "a", "b")}))
				}
			}
		}
	}
	for _, keys := range [][2]string{{"", "b"}, {"a", ""}, {"", ""}, {long + "k", long + "k"}, {"a", long + "k"}, {long + "k", "z"}, {"b", "a"}, {"ab", "a"}, {strings.Repeat("k", 255), strings.Repeat("k", 255)}} {
		b.faulty(t, fmt.Sprintf("from %q to %q", keys[0], keys[1]), laid([]string{entry(1, 0, 1, keys[0], keys[1])}))
		b.faulty(t, fmt.Sprintf("from %q to %q, in the second part", keys[0], keys[1]), laid([]string{entry(0, 0, 1, "a", "a")}, []string{entry(5, 3, 1, keys[0], keys[1])}))
	}
	for _, keys := range [][2]string{{"a", "a"}, {long, long}, {"\x00", "\xff"}, {long[:31], long}} {
		b.sound(t, fmt.Sprintf("from %q to %q", keys[0], keys[1]), laid([]string{entry(1, 3, 1, keys[0], keys[1])}))
	}
	for level := range 4 {
		ab, bc, cd := entry(4, level, 2, "a", "b"), entry(4, level, 2, "b", "c"), entry(4, level, 2, "c", "d")
		b.sound(t, "sorted", laid([]string{ab, cd}))
		b.sound(t, "sorted, in two parts", laid([]string{ab}, []string{cd}))
		wrong := api.ErrFaulty
		if level == 0 {
			wrong = api.OK
		}
		b.cooked(t, fmt.Sprint("backward in level ", level), wrong, laid([]string{cd, ab}))
		b.cooked(t, fmt.Sprint("backward in two parts of level ", level), wrong, laid([]string{cd}, []string{ab}))
		b.cooked(t, fmt.Sprint("overlapping in level ", level), wrong, laid([]string{ab, bc}))
		b.cooked(t, fmt.Sprint("one table twice in level ", level), wrong, laid([]string{ab, ab}))
		b.sound(t, "overlapping in another tree", laid([]string{ab, entry(3, level, 2, "a", "b")}))
		b.sound(t, "overlapping in another level", laid([]string{ab, entry(4, (level+1)%4, 2, "a", "b")}))
	}
}

// P16.5: in which order and parts tables stand is not looked at, but that those of one level stand in their order.
func TestOrdersAndPartsOfManifests(t *testing.T) {
	b := newBench(t)
	type table struct {
		ref  api.Ref
		text string
	}
	var all []table
	for _, p := range b.r.manifest {
		for i, text := range entries(p.body) {
			all = append(all, table{p.refs[i], text})
		}
	}
	lay := func(l []table, most func(int) int) func(*recipe) {
		return func(r *recipe) {
			r.manifest = nil
			for len(l) > 0 {
				n, p := most(len(r.manifest)), piece{kind: api.KindManifest}
				for ; n > 0 && len(l) > 0 && len(p.body)+len(l[0].text) <= 860; n-- {
					p.refs, p.body, l = append(p.refs, l[0].ref), p.body+l[0].text, l[1:]
				}
				r.manifest = append(r.manifest, p)
			}
		}
	}
	for n := 1; n < 16; n++ {
		b.sound(t, fmt.Sprint(n, " tables a part"), lay(all, func(int) int { return n }))
	}
	b.sound(t, "parts without tables between others", lay(all, func(i int) int { return i % 2 * 3 }))
	b.sound(t, "a last part without tables", func(r *recipe) { r.manifest = append(r.manifest, piece{kind: api.KindManifest}) })
	chance := rand.New(rand.NewSource(165))
	moved := 0
	for range 40 {
		l := slices.Clone(all)
		chance.Shuffle(len(l), func(i, j int) { l[i], l[j] = l[j], l[i] })
		kept := slices.Clone(l)
		// Those of one level, in the order in which they were: at the places that any of that level have.
		for place, x := range l {
			next := slices.IndexFunc(all, func(y table) bool {
				return y.text[:2] == x.text[:2] && !slices.ContainsFunc(kept[:place], func(z table) bool { return z.text == y.text })
			})
			kept[place] = all[next]
		}
		if !slices.Equal(kept, all) {
			moved++
		}
		b.sound(t, "shuffled, but for the order in levels", lay(kept, func(int) int { return 1 + chance.Intn(15) }))
		r := b.r.clone()
		lay(l, func(int) int { return 15 })(&r)
		a, c := b.x.scene.clone(t), b.x.p.scene.clone(t)
		opens(t, "shuffled", a, c, sameRoot(t, a, c, r))
	}
	if moved < 30 {
		t.Errorf("%d orders alone are other ones", moved)
	}
}

// sameRoot cooks a recipe on two scenes that are the same.
func sameRoot(t testing.TB, a, b *scene, r recipe) api.Ref {
	t.Helper()
	root := a.cook(t, r, 30)
	if got := b.cook(t, r, 30); got != root {
		t.Fatalf("the roots are %v and %v", root, got)
	}
	return root
}

// P16.5: a manifest block has at most 15 tables; there are at most 64 such blocks; those that name one another in a ring have no end.
func TestHowManyManifests(t *testing.T) {
	b := newBench(t)
	one := func(i int) []string { return []string{entry(i%6, 0, 1, fmt.Sprint("a", i), fmt.Sprint("b", i))} }
	row := func(n int) []string {
		var l []string
		for i := range n {
			l = append(l, one(i)...)
		}
		return l
	}
	for n, wrong := range map[int]api.Errno{14: api.OK, 15: api.OK, 16: api.ErrFaulty} {
		b.cooked(t, fmt.Sprint(n, " tables"), wrong, laid(row(n)))
		if n < 16 {
			b.cooked(t, fmt.Sprint(n, " tables, and more"), wrong, laid(row(n), row(3)))
			b.cooked(t, fmt.Sprint(n, " tables, twice"), wrong, laid(row(n), row(n)))
		}
	}
	for n, wrong := range map[int]api.Errno{1: api.OK, 63: api.OK, 64: api.OK, 65: api.ErrFaulty, 66: api.ErrFaulty, 100: api.ErrFaulty} {
		b.cooked(t, fmt.Sprint(n, " blocks"), wrong, func(r *recipe) {
			var parts [][]string
			for i := range n {
				parts = append(parts, one(i))
			}
			laid(parts...)(r)
		})
		b.cooked(t, fmt.Sprint(n, " blocks without tables"), wrong, laid(make([][]string, n)...))
	}
	ring := func(n int, kind int, body string) (*scene, *scene, api.Ref) {
		a, c := b.x.scene.clone(t), b.x.p.scene.clone(t)
		free, _, _ := a.g.Counts()
		first := 251 - free
		var root api.Ref
		for _, s := range []*scene{a, c} {
			for i := range n {
				s.write(t, kind, at(30, first+(i+1)%n), body, 30)
			}
			f := s.write(t, api.KindFree, nil, string(freeThen(s.g.Free())), 30)
			root = s.write(t, api.KindRoot, []api.Ref{f, {Address: first, Stamp: 30}}, rootBody(30, kind == api.KindManifest, kind == api.KindExtra), 30)
		}
		return a, c, root
	}
	for _, n := range []int{1, 2, 3, 16, 17} {
		a, c, root := ring(n, api.KindManifest, "")
		a.refuseOpen(t, fmt.Sprint("a ring of ", n), root, api.ErrFaulty)
		opens(t, fmt.Sprint("a ring of ", n), a, c, root)
		a, c, root = ring(n, api.KindExtra, strings.Repeat("x", 860))
		a.refuseOpen(t, fmt.Sprint("an extra ring of ", n), root, api.ErrFaulty)
		opens(t, fmt.Sprint("an extra ring of ", n), a, c, root)
	}
}

// P16.5: an extra block of another kind, with more Refs than one, with a body that is not full, though there is a next one, or has no bytes; more than 16 of them.
func TestExtraBlocksThatAreNotAsTheyShouldBe(t *testing.T) {
	b := newBench(t)
	full := strings.Repeat("f", 860)
	texts := func(l ...string) func(*recipe) {
		return func(r *recipe) {
			r.extra = nil
			for _, text := range l {
				r.extra = append(r.extra, piece{kind: api.KindExtra, body: text})
			}
		}
	}
	for i := range 2 {
		for kind := 1; kind < 16; kind++ {
			if kind != api.KindExtra {
				b.faulty(t, fmt.Sprint("the part ", i, " is of the kind ", kind), func(r *recipe) { r.extra[i].kind = kind })
			}
		}
		b.faulty(t, "a ref of a part that is there", func(r *recipe) { r.extra[0].refs = at(20, 1) })
		b.faulty(t, "two refs", func(r *recipe) { r.extra[i].refs = at(20, 1, 2) })
		b.faulty(t, "a ref of the last part", func(r *recipe) { r.extra[1].refs = at(20, 250) })
		b.cooked(t, "a ref that is not of the grid", api.ErrArg, func(r *recipe) { r.extra[1].refs, r.extra[1].body = at(20, 251), full })
	}
	for _, n := range []int{1, 2, 430, 859, 860} {
		b.sound(t, fmt.Sprint(n, " bytes"), texts(full[:n]))
		b.sound(t, fmt.Sprint(n, " bytes behind a full one"), texts(full, full[:n]))
		b.sound(t, fmt.Sprint(n, " bytes behind two"), texts(full, full, full[:n]))
		if n < 860 {
			b.faulty(t, fmt.Sprint(n, " bytes ahead of others"), texts(full[:n], full))
			b.faulty(t, fmt.Sprint(n, " bytes between others"), texts(full, full[:n], full))
		}
	}
	b.faulty(t, "no bytes", texts(""))
	b.faulty(t, "no bytes behind a full one", texts(full, ""))
	b.faulty(t, "no bytes ahead of a full one", texts("", full))
	for n, wrong := range map[int]api.Errno{15: api.OK, 16: api.OK, 17: api.ErrFaulty, 18: api.ErrFaulty, 40: api.ErrFaulty} {
		b.cooked(t, fmt.Sprint(n, " blocks"), wrong, texts(slices.Repeat([]string{full}, n)...))
		b.cooked(t, fmt.Sprint(n, " blocks, the last of which has a byte"), wrong, texts(append(slices.Repeat([]string{full}, n-1), "x")...))
	}
}

// P16.5: grid.Read's error of any block goes ahead of a block that is there, and not as it should be; of several of these, the first one.
func TestOrderOfErrorsOfOpen(t *testing.T) {
	b := newBench(t)
	beyond, missing := api.Ref{Address: 251, Stamp: 30}, api.Ref{Address: 250, Stamp: 30}
	wrongs := map[string]func(*recipe){
		"free ones of another kind":      func(r *recipe) { r.free = piece{kind: 9} },
		"free ones that are no set's":    func(r *recipe) { r.free = piece{kind: api.KindFree, body: "\x01"} },
		"a manifest of another kind":     func(r *recipe) { r.manifest[0].kind = 9 },
		"a manifest that is cut":         func(r *recipe) { r.manifest[0].body = r.manifest[0].body[:20] },
		"levels that may not be":         laid([]string{entry(1, 1, 1, "b", "c"), entry(1, 1, 1, "a", "a")}),
		"a tree that is not":             laid([]string{entry(6, 1, 1, "b", "c")}),
		"extra bytes that are too short": func(r *recipe) { r.extra[0].body = "x" },
	}
	for what, wrong := range wrongs {
		b.faulty(t, what, wrong)
		if what != "extra bytes that are too short" {
			b.cooked(t, what+", extra bytes that are not of the grid", api.ErrArg, func(r *recipe) {
				wrong(r)
				r.extra = []piece{{api.KindExtra, []api.Ref{beyond}, strings.Repeat("x", 860)}}
			})
			b.faulty(t, what+", extra bytes that are not there", func(r *recipe) {
				wrong(r)
				r.extra = []piece{{api.KindExtra, []api.Ref{missing}, strings.Repeat("x", 860)}}
			})
		}
		if strings.HasPrefix(what, "free") {
			b.cooked(t, what+", a manifest that is not of the grid", api.ErrArg, func(r *recipe) {
				wrong(r)
				r.manifest[1].refs = append(r.manifest[1].refs, beyond)
			})
		}
		b.faulty(t, what+", a manifest that is not there, extra bytes that are not of the grid", func(r *recipe) {
			wrong(r)
			r.manifest = []piece{{kind: api.KindManifest, refs: []api.Ref{missing}}}
			r.extra = []piece{{api.KindExtra, []api.Ref{beyond}, strings.Repeat("x", 860)}}
		})
	}
}

// spoilt is a recipe to which something was done, by chance.
func spoilt(chance *rand.Rand, r recipe) recipe {
	r = r.clone()
	l := [][]piece{r.extra, r.manifest}[chance.Intn(2)]
	ref := api.Ref{Address: 1 + chance.Intn(253), Stamp: 20 + chance.Intn(2)*10}
	if len(l) == 0 {
		return r
	}
	p := &l[chance.Intn(len(l))]
	b := []byte(p.body)
	switch chance.Intn(9) {
	case 0:
		p.kind = 1 + chance.Intn(7)
	case 1:
		p.refs = append(p.refs, ref)
	case 2:
		p.refs = p.refs[:chance.Intn(len(p.refs)+1)]
	case 3, 4, 5:
		if len(b) > 0 {
			b[chance.Intn(len(b))] = byte(chance.Intn(8))
		}
	case 6:
		b = b[:chance.Intn(len(b)+1)]
	case 7:
		b = append(b, entry(chance.Intn(7), chance.Intn(5), chance.Intn(3), "a", "b")...)
	default:
		b = b[chance.Intn(len(b)+1):]
	}
	p.body = string(b[:min(len(b), 860)])
	p.refs = p.refs[:min(len(p.refs), 15)]
	return r
}

// P16.5: anything done to a checkpoint's blocks: Open tells what it must by the chapter's words.
func TestOpenOfSpoiltCheckpoints(t *testing.T) {
	t.Parallel()
	b := newBench(t)
	chance := rand.New(rand.NewSource(1655))
	opened := 0
	for round := range 1500 {
		r := spoilt(chance, b.r)
		for chance.Intn(3) == 0 {
			r = spoilt(chance, r)
		}
		a, c := b.x.scene.clone(t), b.x.p.scene.clone(t)
		if opens(t, fmt.Sprint("round ", round), a, c, sameRoot(t, a, c, r)) != nil {
			opened++
		}
		if t.Failed() {
			return
		}
	}
	if opened < 100 || opened > 1000 {
		t.Errorf("%d were opened", opened)
	}
}

// FuzzOpen looks for blocks that are opened, or refused, wrongly.
func FuzzOpen(f *testing.F) {
	f.Add(byte(3), []byte("\x00\x00\x01\x01a\x01b"), []byte("\x05\x03\x40\x01a\x01b"), []byte("\x12\x00\x55\x00\x00\x00\x00"), []byte("xyz"), byte(1))
	f.Add(byte(1), []byte("\x00\x01\x01\x01a\x01b\x00\x01\x01\x01c\x01d"), []byte(""), []byte("\x12\x00\x55\x00\x00\x00\x08"), []byte(""), byte(2))
	f.Add(byte(2), []byte(""), []byte("\x00"), []byte("\x12\x00\x55\x00\x00\x00\x0c"), bytesOf(860), byte(0))
	f.Fuzz(func(t *testing.T, has byte, first, second, set, extra []byte, refs byte) {
		var scenes [2]*scene
		var root api.Ref
		for i := range scenes {
			s := begin(t, 18)
			scenes[i] = s
			x := s.write(t, api.KindExtra, nil, string(extra[:min(len(extra), 860)]), 5)
			m := s.write(t, api.KindManifest, at(5, slices.Repeat([]int{1}, int(refs>>4))...), string(second[:min(len(second), 860)]), 5)
			m = s.write(t, api.KindManifest, append(at(5, slices.Repeat([]int{1}, int(refs&15))...), m), string(first[:min(len(first), 860)]), 5)
			free := s.write(t, api.KindFree, nil, string(set[:min(len(set), 860)]), 5)
			l := []api.Ref{free}
			if has&1 != 0 {
				l = append(l, m)
			}
			if has&2 != 0 {
				l = append(l, x)
			}
			root = s.write(t, api.KindRoot, l, "\x05\x00\x00\x00"+string([]byte{has}), 5)
		}
		opens(t, "a fuzz", scenes[0], scenes[1], root)
	})
}

// bytesOf are so many bytes.
func bytesOf(n int) []byte { return []byte(strings.Repeat("b", n)) }
