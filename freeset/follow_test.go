package freeset_test

import (
	"math/rand"
	"slices"
	"testing"

	"exchequer/api"
	"exchequer/freeset"
)

// deeds takes numbers from bytes, noughts behind their end.
type deeds struct{ b []byte }

func (d *deeds) next() int {
	if len(d.b) == 0 {
		return 0
	}
	x := int(d.b[0])
	d.b = d.b[1:]
	return x
}

// block is a number of a block, or one just beside them.
func (d *deeds) block(blocks int) int { return (d.next()*256+d.next())%(blocks+4) - 1 }

// scene is a set and the plain one; which blocks were handed out and not settled since, told by the answers alone; and a clone that was put by, with what it must be.
type scene struct {
	s, by     *freeset.Set
	p, byHows plain
	out       map[int]int
}

// How a block that was handed out is, by the answers.
const (
	kept = 1
	gone = 2
)

// acquire wants the lowest block that is not out, and no other one.
func (c *scene) acquire(t testing.TB) {
	t.Helper()
	block, e := c.s.Acquire()
	if x, f := c.p.acquire(); block != x || e != f {
		t.Fatalf("Acquire: %d, %v, want %d, %v", block, e, x, f)
	}
	if e != api.OK {
		if len(c.out) != len(c.p) {
			t.Fatalf("Acquire: %v, but %d blocks of %d are out", e, len(c.out), len(c.p))
		}
		return
	}
	if c.out[block] != 0 {
		t.Fatalf("Acquire: %d is out", block)
	}
	for lower := 1; lower < block; lower++ {
		if c.out[lower] == 0 {
			t.Fatalf("Acquire: %d, but %d is not out", block, lower)
		}
	}
	c.out[block] = kept
}

func (c *scene) settle(t testing.TB) {
	t.Helper()
	n, m := c.s.Settle(), c.p.settle()
	for block, how := range c.out {
		if how == gone {
			delete(c.out, block)
		}
	}
	if n != m {
		t.Fatalf("Settle: %d, want %d", n, m)
	}
}

// step does one deed to both.
func (c *scene) step(t testing.TB, by *deeds) {
	t.Helper()
	switch by.next() % 12 {
	case 0, 1, 2:
		c.acquire(t)
	case 3:
		for range by.next() {
			c.acquire(t)
		}
	case 4, 5:
		block := by.block(len(c.p))
		e := c.s.Take(block)
		want(t, "Take", e, c.p.take(block))
		if e == api.OK {
			c.out[block] = kept
		}
	case 6, 7, 8:
		block := by.block(len(c.p))
		e := c.s.Release(block)
		want(t, "Release", e, c.p.release(block))
		if e == api.OK {
			c.out[block] = gone
		}
	case 9:
		c.settle(t)
	case 10:
		b := c.s.Bytes()
		s, e := freeset.Read(b)
		want(t, "Read", e, api.OK)
		spoil(b)
		c.s = s
	case 11:
		wantSet(t, "what was put by", c.by, c.byHows)
		c.by, c.byHows = c.s, slices.Clone(c.p)
		c.s = c.s.Clone()
	}
}

// play does deeds to a set and to the plain one, and wants them to be the same behind each.
func play(t testing.TB, blocks int, script []byte) {
	t.Helper()
	c := &scene{s: made(t, blocks), p: all(blocks, 0), out: map[int]int{}}
	c.by, c.byHows = c.s.Clone(), slices.Clone(c.p)
	by := &deeds{script}
	for len(by.b) > 0 && !t.Failed() {
		c.step(t, by)
		wantSet(t, "a script", c.s, c.p)
	}
	wantSet(t, "what was put by", c.by, c.byHows)
}

// P9.1 to P9.5: behind any calls, one behind the other, a set is as the plain one, and what is out is not acquired.
func TestScripts(t *testing.T) {
	chance := rand.New(rand.NewSource(9))
	for _, blocks := range sizes() {
		for range 12 {
			script := make([]byte, 600)
			chance.Read(script)
			play(t, blocks, script)
		}
	}
}

// FuzzSet looks for calls behind which a set is not as it must be.
func FuzzSet(f *testing.F) {
	f.Add(3, []byte{0, 0, 6, 0, 2, 0, 0, 9, 0, 10, 11})
	f.Add(512, []byte{3, 255, 3, 255, 3, 255, 6, 2, 1, 11, 9, 10, 0})
	f.Fuzz(func(t *testing.T, blocks int, script []byte) {
		if blocks < 1 || blocks > 512 {
			if s, e := freeset.New(blocks); s != nil || e != api.ErrRange {
				t.Errorf("New(%d): %v, %v", blocks, s, e)
			}
			return
		}
		play(t, blocks, script[:min(len(script), 600)])
	})
}

// FuzzRead looks for bytes that are read as a set, but are none's, or that are a set's, and are not read as it.
func FuzzRead(f *testing.F) {
	f.Add([]byte{3, 0, 64})
	f.Add([]byte{3, 0, 3})
	f.Add(laid(mixed(65, 1)))
	f.Add(laid(mixed(512, 1)))
	f.Fuzz(func(t *testing.T, b []byte) { wantRead(t, b) })
}
