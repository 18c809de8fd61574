package disk

import "exchequer/api"

// maxFused is how many disks may have a fuse together.
const maxFused = 64

// fuse is what disks share that go out together. None lets all changes by.
type fuse struct {
	left int
	// out is whether a change came that the fuse did not let by: that none is left does not say so.
	out bool
}

// blown tells whether the disks that have this fuse are out.
func (f *fuse) blown() bool { return f != nil && f.out }

// pass tells whether the fuse lets a change by, and counts it.
func (f *fuse) pass() bool {
	if f == nil {
		return true
	}
	if f.left == 0 {
		f.out = true
		return false
	}
	f.left--
	return true
}

// change does what is a change, if the fuse lets it by. Whoever calls it has no other error to tell: a call that fails on its own does not count.
func (d *Disk) change(do func()) api.Errno {
	if !d.fuse.pass() {
		return api.ErrBroken
	}
	do()
	d.ops++
	return api.OK
}

// Fuse gives disks a fuse together.
func Fuse(l []*Disk, n int) api.Errno {
	for _, d := range l {
		if !d.made() {
			return api.ErrNil
		}
	}
	if n < 0 || len(l) > maxFused {
		return api.ErrArg
	}
	f := &fuse{left: n}
	for _, d := range l {
		// That it is out must not be forgotten with the fuse that says so.
		d.out = !d.Up()
		d.fuse = f
	}
	return api.OK
}
