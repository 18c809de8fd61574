package disk_test

import (
	"math"
	"slices"
	"testing"

	"exchequer/api"
)

// turned is b with one byte turned.
func turned(b []byte, at int, mask byte) []byte {
	b = slices.Clone(b)
	b[at] ^= mask
	return b
}

func TestTurnOfASafeSector(t *testing.T) {
	d := made(t, 3)
	ok(t, "Write", d.Write(0, some(3, 1)))
	ok(t, "Flush", d.Flush())
	is := some(3, 1)
	for _, x := range []struct {
		sector, at int
		mask       byte
	}{{0, 0, 1}, {0, 255, 0x80}, {1, 0, 0xff}, {2, 255, 0x55}, {2, 100, 0}, {1, 0, 0x0f}} {
		ok(t, "Turn", d.Turn(x.sector, x.at, x.mask))
		is = turned(is, x.sector*256+x.at, x.mask)
		wantRead(t, "turned", d, 0, is)
	}
	wantLoose(t, "turned", d)
	wantOps(t, "turned", d, 2)
	ok(t, "Crash", d.Crash(nil, 0))
	wantRead(t, "a crash does not turn it back", d, 0, is)
	ok(t, "Turn", d.Turn(1, 0, 0xf0))
	ok(t, "Turn", d.Turn(0, 0, 1))
	wantRead(t, "turned back", d, 0, turned(turned(some(3, 1), 255, 0x80), 2*256+255, 0x55))
}

func TestTurnOfALooseSector(t *testing.T) {
	d := made(t, 2)
	ok(t, "Write", d.Write(0, some(2, 1)))
	ok(t, "Flush", d.Flush())
	ok(t, "Write", d.Write(1, some(1, 2)))
	ok(t, "Turn", d.Turn(1, 0, 0xc3))
	ok(t, "Turn", d.Turn(1, 255, 0x3c))
	is := turned(turned(some(1, 2), 0, 0xc3), 255, 0x3c)
	wantRead(t, "turned", d, 1, is)
	wantLoose(t, "turned", d, 1)
	kept, lost, torn := d.Clone(), d.Clone(), d.Clone()
	ok(t, "Crash", kept.Crash(yes(1), -1))
	wantRead(t, "it stays as it is", kept, 1, is)
	ok(t, "Crash", lost.Crash(nil, -1))
	wantRead(t, "its old bytes are as they were", lost, 0, some(2, 1))
	ok(t, "Crash", torn.Crash(yes(1), 0))
	wantRead(t, "torn, its new half as it is", torn, 1, slices.Concat(is[:128], some(2, 1)[256+128:]))
	ok(t, "Flush", d.Flush())
	ok(t, "Crash", d.Crash(nil, 0))
	wantRead(t, "flushed as it is", d, 1, is)
}

// What a sector was when it was safe is what it was when it was written over, turned or not.
func TestTurnAheadOfAWrite(t *testing.T) {
	d := made(t, 1)
	ok(t, "Write", d.Write(0, some(1, 1)))
	ok(t, "Flush", d.Flush())
	ok(t, "Turn", d.Turn(0, 200, 9))
	ok(t, "Write", d.Write(0, some(1, 2)))
	ok(t, "Crash", d.Crash(nil, 0))
	wantRead(t, "the turned bytes are there again", d, 0, turned(some(1, 1), 200, 9))
}

func TestTurnRefuses(t *testing.T) {
	d := made(t, 3)
	ok(t, "Write", d.Write(0, some(2, 1)))
	for _, out := range []bool{false, true} {
		if out {
			blow(t, d)
		}
		was := look(t, d)
		for _, x := range []struct{ sector, at int }{
			{-1, 0}, {3, 0}, {4, 1}, {0, -1}, {0, 256}, {2, 256}, {-1, 256}, {3, -1}, {1, 512},
			{math.MaxInt, 0}, {math.MinInt, 0}, {0, math.MaxInt}, {0, math.MinInt}, {math.MaxInt, math.MaxInt}, {1 << 32, 0}, {0, 1 << 32},
		} {
			if e := d.Turn(x.sector, x.at, 0xff); e != api.ErrRange {
				t.Errorf("Turn(%d, %d): %v, out %v", x.sector, x.at, e, out)
			}
			if e := d.Turn(x.sector, x.at, 0); e != api.ErrRange {
				t.Errorf("Turn(%d, %d) of no bit: %v, out %v", x.sector, x.at, e, out)
			}
		}
		wantSame(t, "bytes that are not there", look(t, d), was)
	}
}

func TestTurnOfADiskThatIsOut(t *testing.T) {
	d := made(t, 2)
	ok(t, "Write", d.Write(0, some(2, 1)))
	ok(t, "Flush", d.Flush())
	ok(t, "Write", d.Write(1, some(1, 2)))
	blow(t, d)
	ok(t, "Turn of a safe sector", d.Turn(0, 0, 4))
	ok(t, "Turn of a loose sector", d.Turn(1, 255, 5))
	wantUp(t, "turned", d, false)
	wantLoose(t, "turned", d, 1)
	ok(t, "Crash", d.Crash(yes(1), -1))
	wantRead(t, "turned while it was out", d, 0, append(turned(some(1, 1), 0, 4), turned(some(1, 2), 255, 5)...))
}

// crashed is a disk of eight sectors, a to h at first, of which 1, 3, 4 and 6 are loose as B, D, E and G, behind a crash.
func crashed(t *testing.T, keeps []bool, tear int) string {
	t.Helper()
	d := made(t, 8)
	ok(t, "Write", d.Write(0, full('a', 'b', 'c', 'd', 'e', 'f', 'g', 'h')))
	ok(t, "Flush", d.Flush())
	ok(t, "Write", d.Write(6, full('G')))
	ok(t, "Write", d.Write(3, full('D', 'E')))
	ok(t, "Write", d.Write(1, full('B')))
	ok(t, "Crash", d.Crash(keeps, tear))
	wantLoose(t, "crashed", d)
	wantOps(t, "crashed", d, 5)
	wantUp(t, "crashed", d, true)
	b, e := d.Read(0, 8)
	ok(t, "Read", e)
	var halves []byte
	for i := 0; i < len(b); i += 128 {
		halves = append(halves, b[i])
		for _, c := range b[i : i+128] {
			if c != b[i] {
				t.Fatalf("the half sector %d is not of one piece", i/128)
			}
		}
	}
	return string(halves)
}

func TestCrash(t *testing.T) {
	const (
		none = "aabbccddeeffgghh"
		all  = "aaBBccDDEEffGGhh"
	)
	yyyy, nyny, ynyn := yes(4), []bool{false, true, false, true}, []bool{true, false, true, false}
	for _, x := range []struct {
		what  string
		keeps []bool
		tear  int
		want  string
	}{
		{"none stays", nil, 0, none},
		{"none stays", []bool{}, -1, none},
		{"none stays", make([]bool, 4), 0, none},
		{"all stay", yyyy, -1, all},
		{"all stay", yyyy, math.MinInt, all},
		{"all stay, none beyond", yyyy, 4, all},
		{"all stay, none beyond", yyyy, math.MaxInt, all},
		{"the first is torn", yyyy, 0, "aaBbccDDEEffGGhh"},
		{"the second is torn", yyyy, 1, "aaBBccDdEEffGGhh"},
		{"the third is torn", yyyy, 2, "aaBBccDDEeffGGhh"},
		{"the last is torn", yyyy, 3, "aaBBccDDEEffGghh"},
		{"keeps are shorter", yes(1), -1, "aaBBccddeeffgghh"},
		{"keeps are shorter", yes(3), -1, "aaBBccDDEEffgghh"},
		{"keeps are shorter, their last is torn", yes(3), 2, "aaBBccDDEeffgghh"},
		{"keeps are shorter, none beyond", yes(3), 3, "aaBBccDDEEffgghh"},
		{"keeps are longer", yes(9), -1, all},
		{"keeps are longer, the last is torn", yes(9), 3, "aaBBccDDEEffGghh"},
		{"keeps are longer, none beyond", yes(9), 5, all},
		{"keeps that only go beyond", append(make([]bool, 4), yes(4)...), 0, none},
		{"every second one stays", nyny, -1, "aabbccDDeeffGGhh"},
		{"of those that stay the first is torn", nyny, 0, "aabbccDdeeffGGhh"},
		{"of those that stay the second is torn", nyny, 1, "aabbccDDeeffGghh"},
		{"of those that stay there is no third", nyny, 2, "aabbccDDeeffGGhh"},
		{"the others stay", ynyn, -1, "aaBBccddEEffgghh"},
		{"the others stay, the second is torn", ynyn, 1, "aaBBccddEeffgghh"},
	} {
		if got := crashed(t, x.keeps, x.tear); got != x.want {
			t.Errorf("%s, tear %d: %s, want %s", x.what, x.tear, got, x.want)
		}
	}
}

func TestTornAtTheMiddle(t *testing.T) {
	d := made(t, 1)
	ok(t, "Write", d.Write(0, some(1, 1)))
	ok(t, "Flush", d.Flush())
	ok(t, "Write", d.Write(0, some(1, 2)))
	ok(t, "Crash", d.Crash(yes(1), 0))
	wantRead(t, "torn", d, 0, append(some(1, 2)[:128], some(1, 1)[128:]...))
}

func TestCrashOfASectorWrittenAgain(t *testing.T) {
	for _, x := range []struct {
		what  string
		keeps []bool
		tear  int
		want  []byte
	}{
		{"lost", nil, 0, full(1)},
		{"it stays", yes(1), 1, full(4)},
		{"torn", yes(1), 0, half(4, 1)},
	} {
		d := made(t, 2)
		ok(t, "Write", d.Write(0, full(1)))
		ok(t, "Flush", d.Flush())
		for c := byte(2); c <= 4; c++ {
			ok(t, "Write", d.Write(0, full(c)))
		}
		wantLoose(t, "written again", d, 0)
		ok(t, "Crash", d.Crash(x.keeps, x.tear))
		wantRead(t, x.what, d, 0, append(x.want, full(0)...))
	}
}

// A sector may be loose without being another one than it was.
func TestCrashCountsWhatIsWrittenAsItWas(t *testing.T) {
	d := made(t, 2)
	ok(t, "Write", d.Write(0, full(0, 5)))
	wantLoose(t, "written as it was", d, 0, 1)
	ok(t, "Crash", d.Crash([]bool{false, true}, 0))
	wantRead(t, "the second one is torn", d, 0, append(full(0), half(5, 0)...))
}

func TestCrashesOneBehindTheOther(t *testing.T) {
	d := made(t, 2)
	ok(t, "Write", d.Write(0, full(1, 1)))
	ok(t, "Crash", d.Crash(yes(1), 0))
	wantRead(t, "the first crash", d, 0, append(half(1, 0), full(0)...))
	ok(t, "Crash", d.Crash(nil, 0))
	wantRead(t, "a crash of nothing loose", d, 0, append(half(1, 0), full(0)...))
	ok(t, "Write", d.Write(0, full(2)))
	ok(t, "Crash", d.Crash(nil, 0))
	wantRead(t, "what the first one left is old", d, 0, append(half(1, 0), full(0)...))
	ok(t, "Write", d.Write(0, full(3, 3)))
	ok(t, "Crash", d.Crash(yes(2), 0))
	wantRead(t, "torn again", d, 0, append(half(3, 0), full(3)...))
	ok(t, "Write", d.Write(1, full(4)))
	ok(t, "Flush", d.Flush())
	ok(t, "Crash", d.Crash(nil, 0))
	wantRead(t, "flushed", d, 0, append(half(3, 0), full(4)...))
}

func TestCrashLeavesKeepsAsTheyAre(t *testing.T) {
	d := made(t, 4)
	ok(t, "Write", d.Write(0, full(1, 2, 3, 4)))
	room := []bool{true, false, true, true, true}
	ok(t, "Crash", d.Crash(room[:3], 1))
	if !slices.Equal(room, []bool{true, false, true, true, true}) {
		t.Error("Crash has changed what it was handed")
	}
	wantRead(t, "its spare room does not count", d, 0, slices.Concat(full(1, 0), half(3, 0), full(0)))
	room[1] = true
	wantRead(t, "nor what it is later", d, 0, slices.Concat(full(1, 0), half(3, 0), full(0)))
}
