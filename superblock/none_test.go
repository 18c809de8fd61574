package superblock_test

import (
	"testing"

	"exchequer/api"
	"exchequer/disk"
	"exchequer/superblock"
)

// Rule 5: a disk that is nil, or that no function of its package made, is told ahead of all else.
func TestOfNone(t *testing.T) {
	d := formatted(t, full(1))
	was := look(t, d)
	copied := *d
	var none *disk.Disk
	for what, x := range map[string]*disk.Disk{"nil": nil, "an empty one": {}, "a copy": &copied, "a clone of none": none.Clone()} {
		wantShut(t, what, x, api.ErrNil)
		for _, s := range append(wrongs(), full(1)) {
			want(t, what+": Format", superblock.Format(x, s), api.ErrNil)
			refuseWrite(t, what, x, s, api.ErrNil)
		}
	}
	wantSame(t, "calls with a copy", look(t, d), was)
}

// A clone is a disk like another one, and one of its own.
func TestOfAClone(t *testing.T) {
	d := formatted(t, full(1))
	was := look(t, d)
	c := d.Clone()
	wantOpen(t, "a clone", c, full(1))
	wantWrite(t, "a clone", c, least(), full(1).Sequence+1)
	ok(t, "Format of a clone", superblock.Format(c, least()))
	wantSame(t, "what was cloned", look(t, d), was)
}
