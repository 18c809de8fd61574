package grid_test

import (
	"fmt"
	"math/rand"
	"slices"
	"testing"

	"exchequer/api"
	"exchequer/disk"
	"exchequer/grid"
)

// link is a block that names others.
func link(r api.Ref, refs ...api.Ref) api.GridBlock {
	return api.GridBlock{Kind: 2, Ref: r, Refs: refs, Body: some(r.Address)}
}

// at7 are refs of the Stamp 7.
func at7(addresses ...int) []api.Ref {
	var l []api.Ref
	for _, a := range addresses {
		l = append(l, ref(a, 7))
	}
	return l
}

// web is blocks that are there, a root, what Reach of it must tell, and what is wanted then.
type web struct {
	name   string
	blocks []api.GridBlock
	root   api.Ref
	told   []api.Ref
	wanted []api.Ref
}

// webs are of a grid of 9 blocks.
func webs() []web {
	one := ref(1, 7)
	return []web{
		{"nothing is there", nil, one, at7(1), at7(1)},
		{"a root alone", []api.GridBlock{link(one)}, one, nil, nil},
		{"a root of another Stamp", []api.GridBlock{link(ref(1, 8), at7(2, 3)...)}, one, at7(1), at7(1)},
		{"a root that is not there, and others are", []api.GridBlock{link(ref(2, 7), at7(1, 3)...)}, one, at7(1), at7(1)},
		{"none of what is named is there", []api.GridBlock{link(one, at7(5, 2, 9, 3)...)}, one, at7(5, 2, 9, 3), at7(5, 2, 9, 3)},
		{"all of it is there", []api.GridBlock{link(one, at7(2, 3)...), link(ref(2, 7), at7(3)...), link(ref(3, 7))}, one, nil, nil},
		{"depth first", []api.GridBlock{link(one, at7(2, 9, 3, 8)...), link(ref(2, 7), at7(7, 4, 6)...), link(ref(4, 7), at7(5)...), link(ref(3, 7), at7(6, 2)...)}, one, at7(7, 5, 6, 9, 8), at7(7, 5, 6, 9, 8)},
		{"what comes later is told where it comes first", []api.GridBlock{link(one, at7(2, 3, 9)...), link(ref(2, 7), at7(9)...), link(ref(3, 7), at7(8, 9)...)}, one, at7(9, 8), at7(9, 8)},
		{"itself", []api.GridBlock{link(one, at7(1, 1, 2, 1)...)}, one, at7(2), at7(2)},
		{"one another", []api.GridBlock{link(one, at7(2, 4)...), link(ref(2, 7), at7(1, 3)...), link(ref(3, 7), at7(2, 1, 5)...)}, one, at7(5, 4), at7(5, 4)},
		{"one block twice", []api.GridBlock{link(one, at7(2, 3, 2, 3, 4, 4)...), link(ref(2, 7), at7(5, 5)...)}, one, at7(5, 3, 4), at7(5, 3, 4)},
		{"one block of several Stamps", []api.GridBlock{link(one, ref(2, 6), ref(2, 7), ref(2, 8), ref(1, 6)), link(ref(2, 7), ref(1, 8), ref(2, 6))}, one, []api.Ref{ref(2, 6), ref(1, 8), ref(2, 8), ref(1, 6)}, []api.Ref{ref(2, 6), ref(1, 8), ref(2, 8), ref(1, 6)}},
		{"what is not of the grid", []api.GridBlock{link(one, at7(10, 9, 512, 10)...)}, one, at7(10, 9, 512), at7(9)},
		{"what is not of the grid, further on", []api.GridBlock{link(one, at7(2, 3)...), link(ref(2, 7), at7(300)...), link(ref(3, 7), ref(300, 8), ref(300, 7), ref(4, 7))}, one, []api.Ref{ref(300, 7), ref(300, 8), ref(4, 7)}, at7(4)},
		{"the edges of Address and Stamp", []api.GridBlock{link(ref(9, most), ref(9, 0), ref(1, 0), ref(1, most), ref(512, most))}, ref(9, most), []api.Ref{ref(9, 0), ref(1, 0), ref(1, most), ref(512, most)}, []api.Ref{ref(9, 0), ref(1, 0), ref(1, most)}},
		{"the Stamp 0", []api.GridBlock{link(ref(1, 0), ref(2, 0)), link(ref(2, 0), ref(3, 0), ref(1, 0))}, ref(1, 0), []api.Ref{ref(3, 0)}, []api.Ref{ref(3, 0)}},
		{"sixteen", []api.GridBlock{link(one, at7(9, 8, 7, 6, 5, 4, 3, 2, 1, 2, 3, 4, 5, 6, 7, 8)...)}, one, at7(9, 8, 7, 6, 5, 4, 3, 2), at7(9, 8, 7, 6, 5, 4, 3, 2)},
	}
}

// hang lays blocks.
func hang(t testing.TB, d *disk.Disk, l []api.GridBlock) {
	t.Helper()
	for _, b := range l {
		lay(t, d, b)
	}
}

// P11.4: Reach tells what is not there, in its order, each ref once; what is of the grid is wanted, in this order; nothing else has changed. Told twice it is the same.
func TestReach(t *testing.T) {
	for _, w := range webs() {
		for how := range 3 {
			d := newDisk(t, sectorsFor(9)+80)
			g := opened(t, d, all(9, how))
			hang(t, d, w.blocks)
			// Behind the grid stands nothing of it, even where it is of a block that is named.
			lay(t, d, link(ref(10, 7), at7(6)...))
			was := look(t, d)
			fuse(t, d, 0)
			for range 2 {
				wantReach(t, w.name, g, w.root, w.told...)
				wantWanted(t, w.name, g, w.wanted...)
			}
			wantSame(t, w.name, look(t, d), was)
			wantSet(t, w.name, g, all(9, how))
		}
	}
}

// P11.4: what was wanted ahead of it stays ahead, what comes to be wanted stands behind it, once.
func TestReachBehindOtherWants(t *testing.T) {
	for _, w := range webs() {
		g, d := fresh(t, 9)
		hang(t, d, w.blocks)
		l := []api.Ref{ref(5, 99)}
		if len(w.wanted) > 0 {
			l = append(l, w.wanted[len(w.wanted)-1])
		}
		for _, r := range l {
			refuseRead(t, w.name, g, r, api.ErrFaulty)
		}
		wantReach(t, w.name, g, w.root, w.told...)
		for _, r := range w.wanted {
			if !slices.Contains(l, r) {
				l = append(l, r)
			}
		}
		wantWanted(t, w.name, g, l...)
	}
}

// P11.4: what is told and of the grid, installed one by one, brings to light what that names, until nothing is missing.
func TestReachAndInstall(t *testing.T) {
	g, d := fresh(t, 60)
	h, o := fresh(t, 60)
	wrote(t, g, link(ref(1, 7)))
	for i := 2; i <= 60; i++ {
		wrote(t, g, link(ref(i, 7), ref(i/2, 7), ref(i-1, 7), ref(i/3+1, 7)))
	}
	installs := 0
	for {
		l, e := h.Reach(ref(60, 7))
		ok(t, "Reach", e)
		if len(l) == 0 {
			break
		}
		wantWanted(t, "Reach", h, l...)
		for i, r := range l {
			raw, e := g.Raw(r)
			ok(t, "Raw", e)
			ok(t, "Install", h.Install(r, raw))
			wantWanted(t, "Install", h, l[i+1:]...)
			installs++
		}
	}
	if installs != 60 {
		t.Errorf("%d Installs", installs)
	}
	wantSame(t, "all installed", seen{now: look(t, o).now}, seen{now: look(t, d).now})
}

// P11.4: blocks one behind the other, as many as a grid may have: the way is as deep as it may be.
func TestReachOfALongChain(t *testing.T) {
	for _, last := range [][]api.Ref{nil, {ref(512, 3)}, {ref(1, 4)}, {ref(1, 5), ref(9, 9)}} {
		g, d := fresh(t, 512)
		for i := 1; i < 512; i++ {
			ok(t, "disk.Write", d.Write(placeOf(i), laid(link(ref(i, 3), ref(i+1, 3)))))
		}
		ok(t, "disk.Write", d.Write(placeOf(512), laid(link(ref(512, 3), last...))))
		var told []api.Ref
		for _, r := range last {
			if r.Stamp != 3 {
				told = append(told, r)
			}
		}
		wantReach(t, "a long chain", g, ref(1, 3), told...)
		ok(t, "Turn", d.Turn(placeOf(300)+2, 3, 4))
		wantReach(t, "a chain that is broken", g, ref(1, 3), ref(300, 3))
		wantReach(t, "behind the break", g, ref(301, 3), told...)
	}
}

// P11.4: a grid all of whose blocks name as many as they may, each ref another one's: all are looked at.
func TestReachOfManyRefs(t *testing.T) {
	g, d := fresh(t, 512)
	p := &plain{d: d, hows: all(512, free)}
	for i := 1; i <= 512; i++ {
		var l []api.Ref
		for j := range 16 {
			l = append(l, ref(1+(i*17+j*31)%512, []int{3, 3 + i}[j%2]))
		}
		ok(t, "disk.Write", d.Write(placeOf(i), laid(link(ref(i, 3), l...))))
	}
	l := p.reach(ref(5, 3))
	if len(l) < 4000 {
		t.Fatalf("%d refs are not there, which is too few to tell much", len(l))
	}
	wantReach(t, "many refs", g, ref(5, 3), l...)
	wantWanted(t, "many refs", g, l...)
}

// chanced is a web by chance: blocks, some of them not there, that name any.
func chanced(chance *rand.Rand, blocks int) []api.GridBlock {
	var l []api.GridBlock
	for address := 1; address <= blocks; address++ {
		if chance.Intn(4) == 0 {
			continue
		}
		b := link(ref(address, chance.Intn(2)))
		for range chance.Intn(17) * chance.Intn(2) {
			b.Refs = append(b.Refs, ref(1+chance.Intn(blocks+2), chance.Intn(2)))
		}
		l = append(l, b)
	}
	return l
}

// P11.4: webs by chance, of which each ref is a root, held against the plain grid.
func TestReachByChance(t *testing.T) {
	chance := rand.New(rand.NewSource(11))
	for range 150 {
		blocks := 1 + chance.Intn(12)
		d := newDisk(t, sectorsFor(blocks)+16)
		g := opened(t, d, mixed(blocks, 1))
		p := &plain{d: d, hows: mixed(blocks, 1)}
		hang(t, d, chanced(chance, blocks))
		for _, i := range chance.Perm(2 * blocks) {
			root := ref(1+i/2, i%2)
			wantReach(t, fmt.Sprint(blocks, " blocks"), g, root, p.reach(root)...)
			wantWanted(t, fmt.Sprint(blocks, " blocks"), g, p.wanted...)
		}
	}
}

// P11.4: turned and put right, of another set, of another grid on the disk: Reach tells of the disk as it is.
func TestReachOfTheDiskAsItIs(t *testing.T) {
	g, d := fresh(t, 4)
	wrote(t, g, link(ref(1, 7)))
	wrote(t, g, link(ref(2, 7), ref(1, 7)))
	wrote(t, g, link(ref(3, 7), ref(2, 7), ref(1, 7)))
	wantReach(t, "all there", g, ref(3, 7))
	ok(t, "Turn", d.Turn(placeOf(2), 77, 8))
	wantReach(t, "turned", g, ref(3, 7), ref(2, 7))
	ok(t, "Turn", d.Turn(placeOf(1), 77, 8))
	wantReach(t, "both turned", g, ref(3, 7), at7(2, 1)...)
	ok(t, "Turn", d.Turn(placeOf(2), 77, 8))
	wantReach(t, "one turned back", g, ref(3, 7), ref(1, 7))
	wantWanted(t, "each once", g, at7(2, 1)...)
	o, e := grid.New(d, 2)
	ok(t, "New", e)
	refuseReach(t, "a smaller grid", o, ref(3, 7), api.ErrArg)
	wantReach(t, "a smaller grid", o, ref(2, 7), ref(1, 7))
	wantWanted(t, "a smaller grid", o, ref(1, 7))
	ok(t, "Crash", d.Crash(nil, 0))
	wantReach(t, "nothing was flushed", g, ref(3, 7), ref(3, 7))
	wantWanted(t, "nothing was flushed", g, at7(2, 1, 3)...)
}
