package grid_test

import (
	"bytes"
	"fmt"
	"math"
	"slices"
	"testing"

	"exchequer/api"
)

// strangers are refs that are not of a grid of so many blocks.
func strangers(blocks int) []api.Ref {
	l := []api.Ref{{}}
	for _, address := range []int{-1, 0, blocks + 1, blocks + 2, blocks + 64, 513, 1<<16 + 1, 1<<32 + 1, math.MinInt, math.MinInt + 1, math.MaxInt} {
		for _, stamp := range []int{0, 5, most} {
			l = append(l, ref(address, stamp))
		}
	}
	for _, stamp := range []int{-1, most + 1, -most, 1 << 31, 1 << 32, 1<<32 + 5, math.MinInt, math.MaxInt} {
		l = append(l, ref(1, stamp), ref(blocks, stamp))
	}
	return append(l, ref(0, -1), ref(blocks+1, most+1))
}

// P11.3: blocks of each Kind, of few and many Refs, at the edges of Address and Stamp, are told; nothing has changed.
func TestReadAndRaw(t *testing.T) {
	for _, blocks := range []int{1, 4, 64, 512} {
		d := newDisk(t, sectorsFor(blocks))
		g := opened(t, d, mixed(blocks, 4))
		var l []api.GridBlock
		for i, address := range []int{1, blocks/2 + 1, blocks} {
			for j, stamp := range []int{0, 1, most} {
				l = append(l, like(i*5+j, ref(address, stamp)))
			}
		}
		for i := range 15 {
			l = append(l, like(i, ref(1+i%blocks, i)))
		}
		for _, b := range l {
			lay(t, d, b)
			was := look(t, d)
			wantRead(t, "laid", g, b)
			wantSame(t, "Read", look(t, d), was)
		}
		wantSet(t, "Read", g, mixed(blocks, 4))
		wantWanted(t, "Read", g)
	}
}

// P11.3: a ref that is not of the grid is refused, whatever the disk has, and is not wanted; nothing is wanted either of a disk that is out, which comes ahead.
func TestReadRefusesStrangers(t *testing.T) {
	for _, blocks := range []int{1, 4, 511, 512} {
		d := newDisk(t, sectorsFor(blocks)+40)
		g := opened(t, d, all(blocks, taken))
		// What stands behind the grid's last block, and ahead of its first one, is none of it.
		for _, address := range []int{0, blocks + 1, blocks + 2} {
			layRaw(t, d, address, laid(of(ref(address, 5), 1, 9)))
		}
		was := look(t, d)
		for _, r := range strangers(blocks) {
			refuseRead(t, "not of the grid", g, r, api.ErrArg)
			refuseReach(t, "not of the grid", g, r, api.ErrArg)
			want(t, "Install", g.Install(r, laid(of(r, 1, 9))), api.ErrArg)
			want(t, "Install of no bytes", g.Install(r, nil), api.ErrArg)
			want(t, "Install of another block's", g.Install(r, laid(of(ref(1, 5), 1, 9))), api.ErrArg)
		}
		wantWanted(t, "not of the grid", g)
		wantSame(t, "not of the grid", look(t, d), was)
		blow(t, d)
		for _, r := range append(strangers(blocks), ref(1, 5), ref(1, 0)) {
			refuseRead(t, "out", g, r, api.ErrBroken)
			refuseReach(t, "out", g, r, api.ErrBroken)
			want(t, "Install, out", g.Install(r, laid(of(r, 1, 9))), api.ErrBroken)
			want(t, "Install of no bytes, out", g.Install(r, nil), api.ErrBroken)
		}
		wantWanted(t, "out", g)
	}
}

// junk are bytes, 1,024 of them, that are not those of a block with the Ref 2 7.
func junk() map[string][]byte {
	b := of(ref(2, 7), 2, 30)
	turned := laid(b)
	turned[500] ^= 1
	beside := laid(b)
	beside[1023] = 1
	kind := b
	kind.Kind = 16
	stranger := b
	stranger.Refs = []api.Ref{ref(513, 1)}
	return map[string][]byte{
		"noughts":                       make([]byte, 1024),
		"anything":                      some(1024),
		"a block that is turned":        turned,
		"a block without its seal":      append(make([]byte, 16), laid(b)[16:]...),
		"sealed noughts":                reseal(make([]byte, 1024)),
		"sealed, a Kind that is none":   laid(kind),
		"sealed, a Ref that is none":    laid(stranger),
		"sealed, noughts that are none": reseal(beside),
		"another Address":               laid(of(ref(1, 7), 2, 30)),
		"an Address beyond the grid":    laid(of(ref(5, 7), 2, 30)),
		"another Stamp":                 laid(of(ref(2, 8), 2, 30)),
		"a lower Stamp":                 laid(of(ref(2, 6), 2, 30)),
		"Address and Stamp turned":      laid(of(ref(7, 2), 2, 30)),
		"two halves of two":             append(laid(b)[:512], laid(of(ref(2, 7), 2, 800))[512:]...),
	}
}

// P11.3: what is not there is ErrFaulty, whatever stands in its place, and is wanted.
func TestReadOfWhatIsNotThere(t *testing.T) {
	for what, raw := range junk() {
		for how := range 3 {
			d := newDisk(t, 120)
			g := opened(t, d, all(4, how))
			layRaw(t, d, 2, raw)
			lay(t, d, of(ref(1, 7), 0, 3))
			was := look(t, d)
			refuseRead(t, what, g, ref(2, 7), api.ErrFaulty)
			wantWanted(t, what, g, ref(2, 7))
			wantSame(t, what, look(t, d), was)
			wantSet(t, what, g, all(4, how))
			lay(t, d, of(ref(2, 7), 1, 3))
			wantRead(t, "it is there now", g, of(ref(2, 7), 1, 3))
		}
	}
}

// P11.3: whether a block is free, taken or let go is not looked at: what is there is told.
func TestReadLooksAtNoSet(t *testing.T) {
	for how := range 3 {
		d := newDisk(t, 120)
		g := opened(t, d, all(4, how))
		lay(t, d, of(ref(3, 7), 3, 70))
		wantRead(t, fmt.Sprint("a block that is ", how), g, of(ref(3, 7), 3, 70))
		wantSet(t, "Read", g, all(4, how))
	}
}

// P11.3: each ref is wanted once, in the order in which it came to be, by whatever call, until it is installed; then it may come to be wanted anew, behind all others.
func TestWanted(t *testing.T) {
	g, d := fresh(t, 9)
	reads := []api.Ref{ref(3, 1), ref(9, most), ref(1, 0), ref(3, 1), ref(3, 2), ref(9, most), ref(2, 4), ref(1, 0)}
	for i, r := range reads {
		if i%2 == 0 {
			if _, e := g.Read(r); e != api.ErrFaulty {
				t.Error(e)
			}
		} else if _, e := g.Raw(r); e != api.ErrFaulty {
			t.Error(e)
		}
	}
	wantReach(t, "a root that is not there", g, ref(7, 7), ref(7, 7))
	wantReach(t, "one that is wanted", g, ref(1, 0), ref(1, 0))
	l := []api.Ref{ref(3, 1), ref(9, most), ref(1, 0), ref(3, 2), ref(2, 4), ref(7, 7)}
	wantWanted(t, "read", g, l...)
	for _, r := range []api.Ref{ref(1, 0), ref(3, 1), ref(7, 7), ref(9, most)} {
		b := of(r, 1, 20)
		ok(t, "Install", g.Install(r, laid(b)))
		l = slices.DeleteFunc(l, func(x api.Ref) bool { return x == r })
		wantWanted(t, "installed", g, l...)
		wantRead(t, "installed", g, b)
		ok(t, "Install again", g.Install(r, laid(b)))
		wantWanted(t, "installed again", g, l...)
	}
	ok(t, "Turn", d.Turn(placeOf(3), 9, 1))
	refuseRead(t, "turned", g, ref(3, 1), api.ErrFaulty)
	wantWanted(t, "wanted anew", g, ref(3, 2), ref(2, 4), ref(3, 1))
	for _, r := range []api.Ref{ref(2, 4), ref(3, 2), ref(3, 1)} {
		ok(t, "Install", g.Install(r, laid(of(r, 1, 20))))
	}
	wantWanted(t, "all installed", g)
	refuseRead(t, "another one stands there", g, ref(3, 2), api.ErrFaulty)
	wantWanted(t, "wanted behind all", g, ref(3, 2))
}

// P11.3: nothing but Install ends that a ref is wanted: not that it is there by other ways, is read, written, let go, settled, nor another set, nor a crash.
func TestWantedUntilInstalled(t *testing.T) {
	g, d := fresh(t, 3)
	l := []api.Ref{ref(1, 4), ref(2, 4), ref(1, 5)}
	for _, r := range l {
		refuseRead(t, "nothing there", g, r, api.ErrFaulty)
	}
	wrote(t, g, of(ref(1, 4), 0, 9))
	wantWanted(t, "written", g, l...)
	wantRead(t, "written", g, of(ref(1, 4), 0, 9))
	wantReach(t, "written", g, ref(1, 4))
	wantWanted(t, "read", g, l...)
	lay(t, d, of(ref(2, 4), 0, 9))
	wantRead(t, "written behind its back", g, of(ref(2, 4), 0, 9))
	ok(t, "Flush", g.Flush())
	ok(t, "Release", g.Release(ref(1, 4)))
	g.Settle()
	ok(t, "Reset", g.Reset(setOf(all(3, taken))))
	ok(t, "Crash", d.Crash(nil, 0))
	wantWanted(t, "all else", g, l...)
	ok(t, "Install", g.Install(ref(2, 4), laid(of(ref(2, 4), 0, 9))))
	wantWanted(t, "installed", g, ref(1, 4), ref(1, 5))
	ok(t, "Install", g.Install(ref(1, 5), laid(of(ref(1, 5), 0, 9))))
	wantWanted(t, "the same Address", g, ref(1, 4))
}

// P11.3: many refs are wanted, in their order, and installed in another one.
func TestManyWanted(t *testing.T) {
	g, _ := fresh(t, 512)
	var l []api.Ref
	for i := range 1500 {
		r := ref(1+i*7%512, i/512)
		l = append(l, r)
		refuseRead(t, "nothing there", g, r, api.ErrFaulty)
	}
	wantWanted(t, "all", g, l...)
	for i := 0; i < len(l); i += 3 {
		at := i * 11 % len(l)
		r := l[at]
		ok(t, "Install", g.Install(r, laid(of(r, 0, 1))))
		l = slices.Delete(l, at, at+1)
		if i%30 == 0 {
			wantWanted(t, "installed", g, l...)
		}
	}
	wantWanted(t, "installed", g, l...)
}

// P11.3: what is installed is written by one Write, is not flushed, and is told then; the set stays as it is.
func TestInstall(t *testing.T) {
	for _, blocks := range []int{1, 4, 512} {
		d := newDisk(t, sectorsFor(blocks))
		for how := range 3 {
			g := opened(t, d, all(blocks, how))
			for i, address := range []int{1, (blocks + 1) / 2, blocks} {
				for j, stamp := range []int{0, 8, most} {
					b := like(i*3+j+how, ref(address, stamp))
					refuseRead(t, "nothing there", g, b.Ref, api.ErrFaulty)
					ok(t, "Flush", g.Flush())
					was := look(t, d)
					ok(t, "Install", g.Install(b.Ref, laid(b)))
					wantSame(t, "Install", look(t, d), written(was, address, laid(b)))
					wantRead(t, "installed", g, b)
					wantWanted(t, "installed", g)
					layRaw(t, d, address, some(1024))
				}
			}
			wantSet(t, "Install", g, all(blocks, how))
		}
	}
}

// P11.3: what is no block, or another one, is not installed: block.Read's error comes ahead of that its Ref is another one; the ref stays wanted, the disk as it was.
func TestInstallRefuses(t *testing.T) {
	g, d := fresh(t, 4)
	b := of(ref(2, 7), 2, 30)
	lay(t, d, of(ref(2, 3), 1, 9))
	refuseRead(t, "another one", g, b.Ref, api.ErrFaulty)
	was := look(t, d)
	fuse(t, d, 0)
	raws := junk()
	for _, count := range []int{0, 1, 3, 15, 16, 17, 164, 256, 1008, 1023} {
		raws[fmt.Sprint(count, " bytes of it")] = laid(b)[:count]
		raws[fmt.Sprint(count, " bytes of another one")] = laid(of(ref(2, 9), 0, 0))[:count]
	}
	for _, count := range []int{1, 256, 1024} {
		raws[fmt.Sprint(count, " bytes too many")] = append(laid(b), make([]byte, count)...)
	}
	raws["nil"] = nil
	for what, raw := range raws {
		_, e := parsed(raw)
		if e == api.OK {
			e = api.ErrArg
		}
		want(t, what, g.Install(b.Ref, raw), e)
	}
	if !d.Up() {
		t.Error("a refusal blew the fuse")
	}
	wantSame(t, "refused", look(t, d), was)
	wantWanted(t, "refused", g, b.Ref)
	wantSet(t, "refused", g, all(4, free))
}

// P11.3: an Install whose disk fails has done nothing: the ref stays wanted.
func TestInstallOfADiskThatFails(t *testing.T) {
	for n := range 3 {
		g, d := fresh(t, 4)
		l := []api.Ref{ref(1, 7), ref(2, 7), ref(3, 7)}
		for _, r := range l {
			refuseRead(t, "nothing there", g, r, api.ErrFaulty)
		}
		fuse(t, d, n)
		for _, r := range l[:n] {
			ok(t, "Install", g.Install(r, laid(of(r, 1, 9))))
		}
		was := look(t, d)
		was.up = false
		for range 2 {
			want(t, "a fuse", g.Install(l[n], laid(of(l[n], 1, 9))), api.ErrBroken)
			wantWanted(t, "a fuse", g, l[n:]...)
			wantSame(t, "a fuse", look(t, d), was)
		}
		refuseRead(t, "out", g, l[n], api.ErrBroken)
		ok(t, "Crash", d.Crash(yes(20), -1))
		refuseRead(t, "not installed", g, l[n], api.ErrFaulty)
		ok(t, "Install", g.Install(l[n], laid(of(l[n], 1, 9))))
		wantRead(t, "installed", g, of(l[n], 1, 9))
		wantWanted(t, "installed", g, l[n+1:]...)
	}
}

// P11.3: what one grid tells raw another one installs, and has it then byte by byte.
func TestRawAndInstall(t *testing.T) {
	g, d := fresh(t, 30)
	h, o := fresh(t, 30)
	for i := range 30 {
		wrote(t, g, like(i, ref(i+1, 9)))
	}
	for i := range 30 {
		r := ref(1+i*7%30, 9)
		raw, e := g.Raw(r)
		ok(t, "Raw", e)
		ok(t, "Install", h.Install(r, raw))
		wantRead(t, "installed", h, like(r.Address-1, r))
	}
	if !bytes.Equal(look(t, d).now, look(t, o).now) {
		t.Error("the disks are not the same")
	}
	wantSet(t, "installed", h, all(30, free))
}

// Rule 4: what Install is handed stays as it was, with its spare room, and is not kept.
func TestInstallKeepsNothingHandedIn(t *testing.T) {
	g, _ := fresh(t, 4)
	b := of(ref(2, 7), 2, 30)
	room := append(laid(b), 1, 2, 3)
	ok(t, "Install", g.Install(b.Ref, room[:1024]))
	if !bytes.Equal(room, append(laid(b), 1, 2, 3)) {
		t.Error("Install has changed what it was handed")
	}
	spoil(room)
	wantRead(t, "what was handed in is changed", g, b)
}

// Rule 4: what Read, Raw and Reach answer is new memory, with its spare room; Refs and Body share none.
func TestAnswersAreNewMemory(t *testing.T) {
	g, d := fresh(t, 4)
	for _, count := range []int{0, 1, 3, 16} {
		b := of(ref(2, 7), count, 30*count)
		lay(t, d, b)
		was := look(t, d)
		x, _ := g.Read(b.Ref)
		y, _ := g.Read(b.Ref)
		spoilRefs(x.Refs)
		if !bytes.Equal(x.Body, b.Body) {
			t.Error("Refs and Body share memory")
		}
		spoil(x.Body)
		raw, _ := g.Raw(b.Ref)
		other, _ := g.Raw(b.Ref)
		spoil(raw)
		if !same(y, b) || !bytes.Equal(other, laid(b)) {
			t.Error("two answers share memory")
		}
		l, _ := g.Reach(b.Ref)
		m, _ := g.Reach(b.Ref)
		wanted := g.Wanted()
		spoilRefs(l)
		if !slices.Equal(m, names(count)) || !slices.Equal(g.Wanted(), wanted) {
			t.Error("an answer of Reach is not its own")
		}
		wantSame(t, "answers were changed", look(t, d), was)
		wantRead(t, "answers were changed", g, b)
	}
}
