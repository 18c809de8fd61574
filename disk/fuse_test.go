package disk_test

import (
	"math"
	"slices"
	"testing"

	"exchequer/api"
	"exchequer/disk"
)

// disks are as many of two sectors each.
func disks(t testing.TB, count int) []*disk.Disk {
	t.Helper()
	l := make([]*disk.Disk, count)
	for i := range l {
		l[i] = made(t, 2)
	}
	return l
}

// fuse gives disks a fuse where nothing but OK may be.
func fuse(t testing.TB, n int, l ...*disk.Disk) {
	t.Helper()
	ok(t, "Fuse", disk.Fuse(l, n))
}

func TestFuseOfOne(t *testing.T) {
	for _, n := range []int{0, 1, 2, 7} {
		d := made(t, 2)
		fuse(t, n, d)
		for i := range n {
			wantUp(t, "a fuse that changes are left of", d, true)
			if i%2 == 0 {
				ok(t, "Write", d.Write(0, some(2, i)))
			} else {
				ok(t, "Flush", d.Flush())
			}
		}
		wantUp(t, "a fuse that no change is left of", d, true)
		was := look(t, d)
		want(t, "the next Write", d.Write(0, full(99)), api.ErrBroken)
		was.up = false
		wantSame(t, "it is not done", look(t, d), was)
		ok(t, "Crash", d.Crash(yes(2), -1))
		wantRead(t, "it is not done", d, 0, was.now)
	}
}

func TestFlushThatTheFuseDoesNotLetBy(t *testing.T) {
	d := made(t, 2)
	ok(t, "Write", d.Write(0, full(1)))
	fuse(t, 0, d)
	want(t, "Flush", d.Flush(), api.ErrBroken)
	wantLoose(t, "it is not done", d, 0)
	wantOps(t, "it is not done", d, 1)
	ok(t, "Crash", d.Crash(nil, 0))
	wantRead(t, "what was not flushed is lost", d, 0, full(0, 0))
}

func TestFuseOfSeveral(t *testing.T) {
	l := disks(t, 3)
	fuse(t, 4, l...)
	ok(t, "Write", l[0].Write(0, full(1)))
	ok(t, "Flush", l[1].Flush())
	ok(t, "Write", l[1].Write(1, full(2)))
	ok(t, "Flush", l[0].Flush())
	want(t, "the fifth change", l[2].Flush(), api.ErrBroken)
	for i, d := range l {
		wantUp(t, "all are out", d, false)
		want(t, "Write", d.Write(0, full(9)), api.ErrBroken)
		want(t, "Flush", d.Flush(), api.ErrBroken)
		wantOps(t, "all are out", d, []int{2, 2, 0}[i])
	}
	ok(t, "Crash", l[1].Crash(nil, 0))
	wantUp(t, "one has crashed", l[1], true)
	wantUp(t, "others have not", l[0], false)
	wantUp(t, "others have not", l[2], false)
	for range 9 {
		ok(t, "a Flush of one that has no fuse any more", l[1].Flush())
	}
	ok(t, "Crash", l[0].Crash(nil, 0))
	ok(t, "Crash", l[2].Crash(nil, 0))
	wantUp(t, "all have crashed", l[0], true)
	wantUp(t, "all have crashed", l[2], true)
}

func TestReadsAndTurnsAreNoChanges(t *testing.T) {
	d := made(t, 2)
	fuse(t, 1, d)
	for range 5 {
		if _, e := d.Read(0, 2); e != api.OK {
			t.Error(e)
		}
		ok(t, "Turn", d.Turn(0, 0, 1))
		d.Write(0, nil)
		d.Write(2, full(1))
		d.Loose()
		d.Clone().Flush()
	}
	ok(t, "the first change", d.Flush())
	want(t, "the second one", d.Flush(), api.ErrBroken)
}

func TestCrashTakesADiskOutOfItsFuse(t *testing.T) {
	l := disks(t, 2)
	fuse(t, 2, l...)
	ok(t, "Flush", l[0].Flush())
	ok(t, "Crash", l[0].Crash(nil, 0))
	for range 5 {
		ok(t, "Flush of one that has crashed", l[0].Flush())
	}
	ok(t, "the fuse's second change", l[1].Flush())
	want(t, "its third", l[1].Flush(), api.ErrBroken)
	wantUp(t, "one that has crashed ahead", l[0], true)
	wantUp(t, "one that has the fuse", l[1], false)
	ok(t, "Flush", l[0].Flush())
}

func TestFuseArguments(t *testing.T) {
	many := disks(t, 65)
	for _, x := range []struct {
		what string
		l    []*disk.Disk
		n    int
		want api.Errno
	}{
		{"no disks", nil, 0, api.OK},
		{"no disks", []*disk.Disk{}, 1, api.OK},
		{"no disks, n below 0", nil, -1, api.ErrArg},
		{"one, n below 0", many[:1], -1, api.ErrArg},
		{"one, the least n", many[:1], math.MinInt, api.ErrArg},
		{"64", many[:64], 3, api.OK},
		{"65", many, 3, api.ErrArg},
		{"65, n below 0", many, -1, api.ErrArg},
		{"65 times one", slices.Repeat(many[:1], 65), 3, api.ErrArg},
		{"64 times one", slices.Repeat(many[:1], 64), 3, api.OK},
		{"the greatest n", many[:2], math.MaxInt, api.OK},
		{"nil", []*disk.Disk{nil}, 3, api.ErrNil},
		{"nil at the end", []*disk.Disk{many[0], many[1], nil}, 3, api.ErrNil},
		{"nil at the beginning", []*disk.Disk{nil, many[0], many[1]}, 3, api.ErrNil},
		{"nil, n below 0", []*disk.Disk{many[0], nil}, -1, api.ErrNil},
		{"one that is not made", []*disk.Disk{many[0], new(disk.Disk)}, 3, api.ErrNil},
		{"nil behind 65", append(slices.Clone(many), nil), 3, api.ErrNil},
		{"nil behind 65, n below 0", append(slices.Clone(many), nil), -1, api.ErrNil},
	} {
		want(t, "Fuse of "+x.what, disk.Fuse(x.l, x.n), x.want)
	}
}

func TestAFuseThatIsRefusedChangesNothing(t *testing.T) {
	d, o := made(t, 2), made(t, 2)
	fuse(t, 1, d, o)
	for _, l := range [][]*disk.Disk{{d, nil}, {o, new(disk.Disk), d}, slices.Repeat([]*disk.Disk{d}, 65)} {
		if disk.Fuse(l, 9) == api.OK {
			t.Error("a fuse that may not be")
		}
	}
	want(t, "n below 0", disk.Fuse([]*disk.Disk{d, o}, -1), api.ErrArg)
	ok(t, "the first change", d.Flush())
	want(t, "the second one", d.Flush(), api.ErrBroken)
	wantUp(t, "the other one", o, false)
}

func TestFuseOf64(t *testing.T) {
	l := disks(t, 64)
	fuse(t, 64, l...)
	for _, d := range l {
		ok(t, "Flush", d.Flush())
	}
	want(t, "the next one", l[40].Write(0, full(1)), api.ErrBroken)
	for _, d := range l {
		wantUp(t, "all of 64", d, false)
	}
}

func TestFuseWithOneDiskTwice(t *testing.T) {
	d, o := made(t, 2), made(t, 2)
	fuse(t, 2, d, o, d)
	ok(t, "the first change", d.Flush())
	ok(t, "the second one", d.Flush())
	want(t, "the third one", o.Flush(), api.ErrBroken)
	wantUp(t, "the one that is there twice", d, false)
	ok(t, "Crash", d.Crash(nil, 0))
	wantUp(t, "crashed once", d, true)
	ok(t, "Flush", d.Flush())
}

func TestTheLastFuseCounts(t *testing.T) {
	d, o := made(t, 2), made(t, 2)
	fuse(t, 1, d, o)
	fuse(t, 3, d)
	for range 3 {
		ok(t, "a change by the later fuse", d.Flush())
	}
	wantUp(t, "the earlier fuse's other disk", o, true)
	ok(t, "its change", o.Flush())
	want(t, "its next one", o.Flush(), api.ErrBroken)
	wantUp(t, "a disk that has another fuse now", d, true)
	want(t, "the fourth change by the later fuse", d.Flush(), api.ErrBroken)
	wantUp(t, "behind it", d, false)

	l := disks(t, 2)
	fuse(t, 9, l...)
	fuse(t, 0, l[1])
	want(t, "a fuse of fewer", l[1].Flush(), api.ErrBroken)
	wantUp(t, "the earlier fuse's other disk", l[0], true)
	for range 9 {
		ok(t, "all its changes are left", l[0].Flush())
	}
	want(t, "the tenth", l[0].Flush(), api.ErrBroken)
}

func TestFuseOfADiskThatIsOut(t *testing.T) {
	d, o, p := made(t, 2), made(t, 2), made(t, 2)
	fuse(t, 0, d, o)
	want(t, "Flush", d.Flush(), api.ErrBroken)
	fuse(t, 2, d, p)
	wantUp(t, "one that was out", d, false)
	wantUp(t, "one that was not", p, true)
	want(t, "Flush of the one that is out", d.Flush(), api.ErrBroken)
	want(t, "Write of it", d.Write(0, full(1)), api.ErrBroken)
	if _, e := d.Read(0, 1); e != api.ErrBroken {
		t.Error(e)
	}
	wantUp(t, "what it did not do blows no fuse", p, true)
	ok(t, "the first change", p.Flush())
	fuse(t, 5, d)
	wantUp(t, "one that was out, with a third fuse", d, false)
	ok(t, "the second change", p.Flush())
	want(t, "the third one", p.Flush(), api.ErrBroken)
	ok(t, "Crash", d.Crash(nil, 0))
	wantUp(t, "crashed", d, true)
	for range 9 {
		ok(t, "it has no fuse", d.Flush())
	}
	wantUp(t, "others have not crashed", o, false)
	wantUp(t, "others have not crashed", p, false)
}

func TestFuseLeavesItsListAsItIs(t *testing.T) {
	d, o, p := made(t, 2), made(t, 2), made(t, 2)
	room := []*disk.Disk{d, o, p}
	ok(t, "Fuse", disk.Fuse(room[:2], 0))
	if room[0] != d || room[1] != o || room[2] != p {
		t.Error("Fuse has changed what it was handed")
	}
	ok(t, "Flush of one that stands in the spare room", p.Flush())
	room[1] = p
	want(t, "Flush", d.Flush(), api.ErrBroken)
	wantUp(t, "what was laid into the list later", p, true)
	wantUp(t, "what stood in the list", o, false)
}
