package disk_test

import (
	"bytes"
	"math"
	"slices"
	"testing"

	"exchequer/api"
	"exchequer/disk"
)

func TestWriteAndRead(t *testing.T) {
	d := made(t, 5)
	ok(t, "Write", d.Write(1, some(2, 1)))
	wantRead(t, "one Write", d, 0, slices.Concat(full(0), some(2, 1), full(0, 0)))
	wantLoose(t, "one Write", d, 1, 2)
	ok(t, "Write", d.Write(2, some(1, 2)))
	wantRead(t, "one over the other", d, 0, slices.Concat(full(0), some(1, 1), some(1, 2), full(0, 0)))
	wantLoose(t, "one over the other", d, 1, 2)
	ok(t, "Write", d.Write(4, some(1, 3)))
	wantRead(t, "the last one", d, 4, some(1, 3))
	ok(t, "Write", d.Write(0, some(5, 4)))
	wantRead(t, "all", d, 0, some(5, 4))
	wantLoose(t, "all", d, 0, 1, 2, 3, 4)
	for at := range 5 {
		for n := range 5 - at + 1 {
			b, e := d.Read(at, n)
			if e != api.OK || !bytes.Equal(b, some(5, 4)[at*256:(at+n)*256]) {
				t.Errorf("Read(%d, %d): %d bytes, %v", at, n, len(b), e)
			}
		}
	}
}

func TestFlushLeavesAllAsItIs(t *testing.T) {
	d := made(t, 4)
	ok(t, "Write", d.Write(0, some(3, 1)))
	ok(t, "Flush", d.Flush())
	wantRead(t, "flushed", d, 0, append(some(3, 1), full(0)...))
	wantLoose(t, "flushed", d)
	ok(t, "Write", d.Write(2, some(2, 2)))
	wantLoose(t, "behind a flush", d, 2, 3)
	ok(t, "Crash", d.Crash(nil, 0))
	wantRead(t, "crashed", d, 0, append(some(3, 1), full(0)...))
}

func TestWriteRefusesCountsOfBytes(t *testing.T) {
	d := made(t, 2)
	was := look(t, d)
	for _, count := range []int{0, 1, 3, 128, 255, 257, 511, 513, 767} {
		for _, at := range []int{math.MinInt, -1, 0, 1, 2, 3, math.MaxInt} {
			want(t, "Write of "+api.Errno(count).Error()+" bytes", d.Write(at, make([]byte, count)), api.ErrArg)
		}
	}
	want(t, "Write of nil", d.Write(0, nil), api.ErrArg)
	want(t, "Write of none with spare room", d.Write(0, make([]byte, 0, 256)), api.ErrArg)
	wantSame(t, "counts of bytes that no sectors have", look(t, d), was)
	ok(t, "Write of 256 bytes", d.Write(0, make([]byte, 256)))
	ok(t, "Write of 512 bytes", d.Write(0, make([]byte, 512)))
}

func TestWriteRefusesPlaces(t *testing.T) {
	d := made(t, 4)
	ok(t, "Write", d.Write(0, some(4, 1)))
	ok(t, "Flush", d.Flush())
	ok(t, "Write", d.Write(1, some(1, 2)))
	was := look(t, d)
	for _, x := range []struct{ at, n int }{
		{-1, 1}, {-1, 2}, {-4, 4}, {4, 1}, {3, 2}, {2, 3}, {0, 5}, {1, 4}, {5, 1}, {1000, 1}, {-1, 6}, {0, 600},
		{math.MinInt, 1}, {math.MinInt, 4}, {math.MaxInt, 1}, {math.MaxInt, 2}, {math.MaxInt - 1, 4}, {math.MaxInt - 3, 4},
		{math.MaxInt32, 1}, {1 << 32, 1}, {math.MaxInt / 256, 1}, {math.MaxInt/256 + 1, 2},
	} {
		if e := d.Write(x.at, some(x.n, 3)); e != api.ErrRange {
			t.Errorf("Write(%d, %d sectors): %v", x.at, x.n, e)
		}
	}
	wantSame(t, "places that are not there", look(t, d), was)
}

func TestReadAtEdges(t *testing.T) {
	d := made(t, 4)
	ok(t, "Write", d.Write(0, some(4, 1)))
	was := look(t, d)
	for at := range 5 {
		if b, e := d.Read(at, 0); len(b) != 0 || e != api.OK {
			t.Errorf("Read(%d, 0): %d bytes, %v", at, len(b), e)
		}
	}
	for _, x := range []struct{ at, n int }{
		{-1, 0}, {-1, 1}, {-1, 2}, {5, 0}, {0, -1}, {4, -1}, {2, -2}, {5, -1}, {4, 1}, {3, 2}, {0, 5}, {-1, 6}, {-4, 4},
		{math.MaxInt, 0}, {math.MaxInt, 1}, {1, math.MaxInt}, {4, math.MaxInt}, {0, math.MaxInt}, {math.MaxInt, math.MaxInt},
		{math.MinInt, 0}, {0, math.MinInt}, {math.MinInt, math.MinInt}, {math.MinInt, math.MaxInt}, {1 << 32, 0}, {0, 1 << 56},
	} {
		if b, e := d.Read(x.at, x.n); len(b) != 0 || e != api.ErrRange {
			t.Errorf("Read(%d, %d): %d bytes, %v", x.at, x.n, len(b), e)
		}
	}
	wantSame(t, "Reads", look(t, d), was)
}

func TestOutAheadOfOtherErrors(t *testing.T) {
	d := made(t, 2)
	ok(t, "Write", d.Write(0, some(2, 1)))
	blow(t, d)
	was := look(t, d)
	want(t, "Write", d.Write(0, full(1)), api.ErrBroken)
	want(t, "Write of no bytes", d.Write(0, nil), api.ErrBroken)
	want(t, "Write of 3 bytes", d.Write(0, make([]byte, 3)), api.ErrBroken)
	want(t, "Write at no sector", d.Write(-1, full(1)), api.ErrBroken)
	want(t, "Flush", d.Flush(), api.ErrBroken)
	for _, x := range []struct{ at, n int }{{0, 1}, {0, 0}, {-1, 1}, {0, -1}, {0, 3}} {
		if b, e := d.Read(x.at, x.n); len(b) != 0 || e != api.ErrBroken {
			t.Errorf("Read(%d, %d) of a disk that is out: %d bytes, %v", x.at, x.n, len(b), e)
		}
	}
	wantSame(t, "calls of a disk that is out", look(t, d), was)
}

func TestFuseBehindOtherErrors(t *testing.T) {
	d := made(t, 2)
	ok(t, "Fuse", disk.Fuse([]*disk.Disk{d}, 0))
	want(t, "Write of no bytes", d.Write(0, nil), api.ErrArg)
	want(t, "Write of 257 bytes", d.Write(0, make([]byte, 257)), api.ErrArg)
	want(t, "Write at one behind the last", d.Write(2, full(1)), api.ErrRange)
	wantRead(t, "a fuse that nothing came to", d, 0, full(0, 0))
	wantUp(t, "a fuse that nothing came to", d, true)
	want(t, "Write", d.Write(1, full(1)), api.ErrBroken)
	wantUp(t, "a fuse that a Write came to", d, false)
}

func TestWriteKeepsNothingHandedIn(t *testing.T) {
	d := made(t, 3)
	room := some(3, 1)
	b := room[:512]
	ok(t, "Write", d.Write(0, b))
	if !bytes.Equal(room, some(3, 1)) {
		t.Error("Write has changed what it was handed")
	}
	clear(room)
	wantRead(t, "what was handed in is changed", d, 0, append(some(3, 1)[:512], full(0)...))
	ok(t, "Crash", d.Crash(yes(2), -1))
	if !bytes.Equal(room, make([]byte, len(room))) {
		t.Error("Crash has changed what Write was handed")
	}
	wantRead(t, "and the disk has crashed", d, 0, append(some(3, 1)[:512], full(0)...))
}

func TestReadIsNewMemory(t *testing.T) {
	d := made(t, 4)
	ok(t, "Write", d.Write(0, some(4, 1)))
	ok(t, "Flush", d.Flush())
	ok(t, "Write", d.Write(1, some(1, 2)))
	was := look(t, d)
	for _, n := range []int{0, 1, 2} {
		b, e := d.Read(1, n)
		ok(t, "Read", e)
		other, _ := d.Read(1, n)
		for i := range b[:cap(b)] {
			b[:cap(b)][i] ^= 0x5a
		}
		if !bytes.Equal(other, was.now[256:256*(1+n)]) {
			t.Error("two answers of Read share memory")
		}
		wantSame(t, "an answer of Read was changed", look(t, d), was)
	}
	b, _ := d.Read(0, 4)
	ok(t, "Write", d.Write(0, some(4, 5)))
	ok(t, "Turn", d.Turn(2, 2, 2))
	ok(t, "Crash", d.Crash(nil, 0))
	if !bytes.Equal(b, was.now) {
		t.Error("what Read answered has changed with the disk")
	}
}
