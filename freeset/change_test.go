package freeset_test

import (
	"fmt"
	"slices"
	"testing"

	"exchequer/api"
	"exchequer/freeset"
)

func wantAcquire(t testing.TB, s *freeset.Set, block int) {
	t.Helper()
	if got, e := s.Acquire(); got != block || e != api.OK {
		t.Errorf("Acquire: %d, %v, want %d", got, e, block)
	}
}

// refuseAcquire wants Acquire to tell an error, and no block beside it.
func refuseAcquire(t testing.TB, s *freeset.Set, e api.Errno) {
	t.Helper()
	if got, f := s.Acquire(); got != 0 || f != e {
		t.Errorf("Acquire: %d, %v, want %v", got, f, e)
	}
}

// every tells all that so many blocks may be.
func every(blocks int) [][]int {
	l := [][]int{nil}
	for range blocks {
		var longer [][]int
		for _, hows := range l {
			for how := range 3 {
				longer = append(longer, append(slices.Clone(hows), how))
			}
		}
		l = longer
	}
	return l
}

// plain is a set by the chapter's words: how each block is.
type plain []int

func (p plain) acquire() (int, api.Errno) {
	for i, how := range p {
		if how == 0 {
			p[i] = 1
			return i + 1, api.OK
		}
	}
	return 0, api.ErrFull
}

func (p plain) turn(block, from, to int) api.Errno {
	for i, how := range p {
		if i+1 == block && how != from {
			return api.ErrState
		}
		if i+1 == block {
			p[i] = to
			return api.OK
		}
	}
	return api.ErrRange
}

func (p plain) take(block int) api.Errno { return p.turn(block, 0, 1) }

func (p plain) release(block int) api.Errno { return p.turn(block, 1, 2) }

func (p plain) settle() int {
	n := 0
	for i, how := range p {
		if how == 2 {
			p[i] = 0
			n++
		}
	}
	return n
}

// try does each call to a set of blocks that are so, at each of these numbers, and wants it to answer, and to leave the set, as the plain one.
func try(t *testing.T, hows []int, numbers []int) {
	t.Helper()
	s, p := read(t, hows), plain(slices.Clone(hows))
	got, e := s.Acquire()
	if block, f := p.acquire(); got != block || e != f {
		t.Errorf("Acquire of %v: %d, %v, want %d, %v", hows, got, e, block, f)
	}
	wantSet(t, "Acquire", s, p)

	s, p = read(t, hows), plain(slices.Clone(hows))
	if n, m := s.Settle(), p.settle(); n != m {
		t.Errorf("Settle of %v: %d, want %d", hows, n, m)
	}
	wantSet(t, "Settle", s, p)

	for _, block := range numbers {
		s, p = read(t, hows), plain(slices.Clone(hows))
		want(t, fmt.Sprint("Take ", block, " of ", hows), s.Take(block), p.take(block))
		wantSet(t, "Take", s, p)
		s, p = read(t, hows), plain(slices.Clone(hows))
		want(t, fmt.Sprint("Release ", block, " of ", hows), s.Release(block), p.release(block))
		wantSet(t, "Release", s, p)
	}
}

// P9.2: each call to each set of up to five blocks, at each number about them.
func TestEachCallToEachSmallSet(t *testing.T) {
	for blocks := 1; blocks <= 5; blocks++ {
		for _, hows := range every(blocks) {
			try(t, hows, append(fars(), 1, 2, 3, 4, 5, 6, 7, 8, 9, 64, 65))
		}
	}
}

// P9.2: each call to sets of all edges, at the first blocks, the last ones, one above them and numbers far off.
func TestEachCallToSetsOfAllEdges(t *testing.T) {
	for _, blocks := range sizes() {
		for _, hows := range kinds(blocks) {
			try(t, hows, append(fars(), 1, 2, 63, 64, 65, blocks/2, blocks/2+1, blocks-1, blocks, blocks+1, blocks+2, blocks+64))
		}
	}
}

// P9.2: the one block that is free, wherever it stands, is acquired, and then none is.
func TestAcquireOfTheOneThatIsFree(t *testing.T) {
	for _, blocks := range sizes() {
		for at := range blocks {
			for other := 1; other <= 2; other++ {
				hows := all(blocks, other)
				hows[at] = 0
				s := read(t, hows)
				wantAcquire(t, s, at+1)
				hows[at] = 1
				wantSet(t, "acquired", s, hows)
				refuseAcquire(t, s, api.ErrFull)
				wantSet(t, "full", s, hows)
			}
		}
	}
}

// P9.2, P9.4: all blocks of a set are acquired, lowest first, and then none is.
func TestAcquireOfAll(t *testing.T) {
	for blocks := 1; blocks <= 512; blocks++ {
		s := made(t, blocks)
		for block := 1; block <= blocks; block++ {
			wantAcquire(t, s, block)
		}
		refuseAcquire(t, s, api.ErrFull)
		refuseAcquire(t, s, api.ErrFull)
		wantSet(t, "full", s, all(blocks, 1))
	}
}

// P9.2: what was let go is not free until it is settled: it is neither acquired, nor taken, nor let go again; behind that it is free, lowest first.
func TestLetGoAndSettled(t *testing.T) {
	for _, blocks := range sizes() {
		s := made(t, blocks)
		for block := 1; block <= blocks; block++ {
			want(t, "Release of a free one", s.Release(block), api.ErrState)
			want(t, "Take", s.Take(block), api.OK)
			want(t, "Take of a taken one", s.Take(block), api.ErrState)
		}
		for block := blocks; block >= 1; block-- {
			want(t, "Release", s.Release(block), api.OK)
			want(t, "Release of one that was let go", s.Release(block), api.ErrState)
			want(t, "Take of one that was let go", s.Take(block), api.ErrState)
			refuseAcquire(t, s, api.ErrFull)
		}
		wantSet(t, "all let go", s, all(blocks, 2))
		if n := s.Settle(); n != blocks {
			t.Errorf("Settle: %d, want %d", n, blocks)
		}
		wantSet(t, "all settled", s, all(blocks, 0))
		if n := s.Settle(); n != 0 {
			t.Errorf("Settle of none: %d", n)
		}
		wantSet(t, "settled again", s, all(blocks, 0))
		wantAcquire(t, s, 1)
	}
}

// P9.2: Settle where nothing was let go is 0 and changes nothing; it leaves what is taken as it is.
func TestSettleOfNone(t *testing.T) {
	for _, blocks := range sizes() {
		for how := range 2 {
			s := read(t, all(blocks, how))
			if n := s.Settle(); n != 0 {
				t.Errorf("Settle of none: %d", n)
			}
			wantSet(t, "Settle of none", s, all(blocks, how))
		}
	}
}

// P9.2: that there is no such block comes ahead of how it is; a block of another set's number is none of this one's.
func TestOrderOfErrors(t *testing.T) {
	for _, blocks := range sizes() {
		for how := range 3 {
			s := read(t, all(blocks, how))
			for _, block := range append(fars(), blocks+1, blocks+3, blocks+64) {
				want(t, fmt.Sprint("Take ", block, " of ", blocks), s.Take(block), api.ErrRange)
				want(t, fmt.Sprint("Release ", block, " of ", blocks), s.Release(block), api.ErrRange)
			}
			wantSet(t, "no such block", s, all(blocks, how))
		}
	}
}
