package disk_test

import (
	"math"
	"testing"

	"exchequer/api"
	"exchequer/disk"
)

// nones are disks that no function of the package made: none at all, an empty one, and a copy of one by assignment.
func nones(t *testing.T) map[string]*disk.Disk {
	d := made(t, 2)
	ok(t, "Write", d.Write(0, full(1)))
	copied := *d
	return map[string]*disk.Disk{"nil": nil, "an empty one": {}, "a copy": &copied}
}

func TestOfNone(t *testing.T) {
	for what, d := range nones(t) {
		want(t, what+": Write", d.Write(0, full(1)), api.ErrNil)
		want(t, what+": Write of no bytes", d.Write(0, nil), api.ErrNil)
		want(t, what+": Write nowhere", d.Write(-1, full(1)), api.ErrNil)
		want(t, what+": Flush", d.Flush(), api.ErrNil)
		for _, n := range []int{0, 1, -1, math.MaxInt} {
			if b, e := d.Read(0, n); len(b) != 0 || e != api.ErrNil {
				t.Errorf("%s: Read(0, %d): %d bytes, %v", what, n, len(b), e)
			}
		}
		want(t, what+": Turn", d.Turn(0, 0, 1), api.ErrNil)
		want(t, what+": Turn nowhere", d.Turn(-1, 256, 1), api.ErrNil)
		want(t, what+": Crash", d.Crash(nil, 0), api.ErrNil)
		want(t, what+": Crash", d.Crash(yes(2), -1), api.ErrNil)
		want(t, what+": Fuse", disk.Fuse([]*disk.Disk{d}, 1), api.ErrNil)
		want(t, what+": Fuse, n below 0", disk.Fuse([]*disk.Disk{d}, -1), api.ErrNil)
		want(t, what+": Fuse, among others", disk.Fuse([]*disk.Disk{made(t, 1), d}, 1), api.ErrNil)
		if d.Sectors() != 0 || len(d.Loose()) != 0 || d.Ops() != 0 || d.Up() || d.Clone() != nil {
			t.Errorf("%s: %d sectors, loose %v, %d changes, up %v", what, d.Sectors(), d.Loose(), d.Ops(), d.Up())
		}
	}
}

// What is done to a copy by assignment must not be seen at the disk itself, with which it shares memory.
func TestACopyDoesNotReachTheDisk(t *testing.T) {
	d := made(t, 2)
	ok(t, "Write", d.Write(0, full(1)))
	was := look(t, d)
	copied := *d
	copied.Write(0, full(2, 2))
	copied.Turn(0, 0, 1)
	copied.Crash(nil, 0)
	copied.Flush()
	wantSame(t, "calls of a copy", look(t, d), was)
}

// A clone of none is none: whatever is asked of it is answered so.
func TestOfACloneOfNone(t *testing.T) {
	var d *disk.Disk
	c := d.Clone()
	want(t, "Flush of a clone of none", c.Flush(), api.ErrNil)
	if c.Up() || c.Clone() != nil {
		t.Error("a clone of none is something")
	}
}
