package freeset_test

import (
	"bytes"
	"fmt"
	"math"
	"testing"

	"exchequer/api"
	"exchequer/freeset"
)

// sizes are how many blocks a set may have at its edges: the least, about whole bytes and whole words of bits, the most.
func sizes() []int {
	return []int{1, 2, 3, 4, 5, 7, 8, 9, 63, 64, 65, 127, 128, 129, 255, 256, 257, 448, 449, 509, 510, 511, 512}
}

// fars are numbers that are no block's, of whatever set; some of them would be one's if they were cut to fewer bits.
func fars() []int {
	return []int{-1, 0, -2, -63, -64, -65, -511, -512, -513, 513, 514, 576, 577, 1024, 1025,
		1<<8 - 513, 1<<16 + 1, 1 << 31, 1<<32 + 1, 1<<32 + 64, -1<<32 + 1, math.MinInt, math.MinInt + 1, math.MinInt + 65, math.MaxInt - 1, math.MaxInt}
}

// laid is a set's bytes by the chapter's words, of how its blocks are; these need not be such as may be.
func laid(hows []int) []byte {
	b := []byte{byte(len(hows) % 256), byte(len(hows) / 256)}
	for i, how := range hows {
		if i%4 == 0 {
			b = append(b, 0)
		}
		b[len(b)-1] += byte(how * []int{1, 4, 16, 64}[i%4])
	}
	return b
}

// all are so many blocks that are all alike.
func all(blocks, how int) []int {
	l := make([]int, blocks)
	for i := range l {
		l[i] = how
	}
	return l
}

// mixed are so many blocks of all kinds, of which no word, and no byte, is as the one ahead of it.
func mixed(blocks, seed int) []int {
	l := make([]int, blocks)
	x := uint64(seed)*2862933555777941757 + 3037000493
	for i := range l {
		x = x*6364136223846793005 + 1442695040888963407
		l[i] = int(x >> 33 % 3)
	}
	return l
}

// kinds are sets of so many blocks: all alike, one other one at an end or in the midst, and all kinds mixed.
func kinds(blocks int) [][]int {
	var l [][]int
	for how := range 3 {
		l = append(l, all(blocks, how))
		for _, at := range []int{0, 1, blocks / 2, blocks - 2, blocks - 1} {
			for other := range 3 {
				if at >= 0 && at < blocks && other != how {
					one := all(blocks, how)
					one[at] = other
					l = append(l, one)
				}
			}
		}
	}
	for seed := range 4 {
		l = append(l, mixed(blocks, seed))
	}
	return l
}

func want(t testing.TB, what string, got, want api.Errno) {
	t.Helper()
	if got != want {
		t.Errorf("%s: %v, want %v", what, got, want)
	}
}

func made(t testing.TB, blocks int) *freeset.Set {
	t.Helper()
	s, e := freeset.New(blocks)
	if s == nil || e != api.OK {
		t.Fatalf("New(%d): %v, %v", blocks, s, e)
	}
	return s
}

// read is the set whose blocks are so.
func read(t testing.TB, hows []int) *freeset.Set {
	t.Helper()
	s, e := freeset.Read(laid(hows))
	if s == nil || e != api.OK {
		t.Fatalf("Read of %v: %v, %v", hows, s, e)
	}
	return s
}

// counted is how many blocks are free, taken, let go.
func counted(hows []int) (n [3]int) {
	for _, how := range hows {
		n[how]++
	}
	return n
}

// wantSet wants all that can be told of a set to be of blocks that are so.
func wantSet(t testing.TB, what string, s *freeset.Set, hows []int) {
	t.Helper()
	if b := s.Bytes(); !bytes.Equal(b, laid(hows)) {
		t.Errorf("%s: bytes %v, want %v", what, b, laid(hows))
	}
	for i, how := range hows {
		if got := s.Is(i + 1); got != how {
			t.Errorf("%s: block %d of %d is %d, want %d", what, i+1, len(hows), got, how)
		}
	}
	n := counted(hows)
	if a, b, c := s.Counts(); a != n[0] || b != n[1] || c != n[2] {
		t.Errorf("%s: counts %d %d %d, want %v", what, a, b, c, n)
	}
}

// P9.1: New makes a set of as many blocks, all of them free.
func TestNew(t *testing.T) {
	for blocks := 1; blocks <= 512; blocks++ {
		wantSet(t, fmt.Sprint("New ", blocks), made(t, blocks), all(blocks, 0))
	}
}

// P9.1: no set has other than 1 to 512 blocks; with the error there is no set.
func TestNewRefuses(t *testing.T) {
	for _, blocks := range fars() {
		if blocks >= 1 && blocks <= 512 {
			t.Fatal(blocks, "is no wrong number")
		}
		if s, e := freeset.New(blocks); s != nil || e != api.ErrRange {
			t.Errorf("New(%d): %v, %v", blocks, s, e)
		}
	}
}

// P9.1: two sets have nothing in common.
func TestNewIsASetOfItsOwn(t *testing.T) {
	a := made(t, 65)
	b := made(t, 65)
	change(t, b)
	wantSet(t, "a set beside another one", a, all(65, 0))
	wantSet(t, "a third one", made(t, 65), all(65, 0))
}

// change does something of each kind to a set of 65 blocks, all of them free, or more.
func change(t testing.TB, s *freeset.Set) {
	t.Helper()
	for want := 1; want <= 3; want++ {
		if got, e := s.Acquire(); got != want || e != api.OK {
			t.Errorf("Acquire: %d, %v, want %d", got, e, want)
		}
	}
	want(t, "Take(65)", s.Take(65), api.OK)
	want(t, "Release(1)", s.Release(1), api.OK)
	if n := s.Settle(); n != 1 {
		t.Errorf("Settle: %d", n)
	}
	want(t, "Release(65)", s.Release(65), api.OK)
}

// P9.3: Is tells how each block is, and that there is none of other numbers; none of that changes a set.
func TestIs(t *testing.T) {
	for _, blocks := range sizes() {
		for _, hows := range kinds(blocks) {
			s := read(t, hows)
			for i, how := range hows {
				if got := s.Is(i + 1); got != how {
					t.Errorf("Is(%d) of %v: %d", i+1, hows, got)
				}
			}
			for _, block := range append(fars(), blocks+1, blocks+2, blocks+64, blocks+512, -blocks) {
				if got := s.Is(block); got != -1 {
					t.Errorf("Is(%d) of %d blocks: %d", block, blocks, got)
				}
			}
			wantSet(t, "Is", s, hows)
		}
	}
}

// P9.3: Counts tells how many are free, taken, let go, in this order, of all blocks and no others.
func TestCounts(t *testing.T) {
	for _, blocks := range sizes() {
		for _, hows := range kinds(blocks) {
			s := read(t, hows)
			n := counted(hows)
			for range 2 {
				a, b, c := s.Counts()
				if a != n[0] || b != n[1] || c != n[2] || a+b+c != blocks {
					t.Errorf("Counts of %v: %d %d %d", hows, a, b, c)
				}
			}
		}
	}
	if a, b, c := read(t, []int{2, 0, 1, 2, 1, 2}).Counts(); a != 1 || b != 2 || c != 3 {
		t.Errorf("Counts: %d %d %d", a, b, c)
	}
}

// The chapter's examples.
func TestExamples(t *testing.T) {
	s := made(t, 3)
	wantAcquire(t, s, 1)
	wantAcquire(t, s, 2)
	want(t, "Release(1)", s.Release(1), api.OK)
	wantAcquire(t, s, 3)
	refuseAcquire(t, s, api.ErrFull)

	if n := s.Settle(); n != 1 {
		t.Errorf("Settle: %d", n)
	}
	wantAcquire(t, s, 1)
	if b := s.Bytes(); !bytes.Equal(b, []byte{3, 0, 21}) {
		t.Errorf("Bytes: %v", b)
	}

	want(t, "Release(4)", s.Release(4), api.ErrRange)
	want(t, "Release(1)", s.Release(1), api.OK)
	want(t, "Release(1)", s.Release(1), api.ErrState)
	if s.Is(1) != 2 || s.Is(0) != -1 {
		t.Errorf("Is: %d, %d", s.Is(1), s.Is(0))
	}
	if a, b, c := s.Counts(); a != 0 || b != 2 || c != 1 {
		t.Errorf("Counts: %d %d %d", a, b, c)
	}

	refuseRead(t, []byte{3, 0, 64})
	refuseRead(t, []byte{3, 0, 3})
	if s, e := freeset.New(513); s != nil || e != api.ErrRange {
		t.Errorf("New(513): %v, %v", s, e)
	}
}
