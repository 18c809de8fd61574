package superblock

import (
	"bytes"
	"iter"

	"exchequer/api"
	"exchequer/disk"
)

// enough is how many copies must have the same bytes for these to be open, and how many are written at once, so that as many are left as they were.
const enough = 2

// image is the bytes of a copy.
type image [imageSize]byte

// found is what a disk has: the bytes of all copies; which of them are open, and the superblock that these are.
type found struct {
	all  []byte
	open image
	s    api.Super
}

// copies goes through the copies, by rising numbers.
func copies(all []byte) iter.Seq2[int, image] {
	return func(yield func(int, image) bool) {
		for i := range api.Copies {
			if !yield(i, image(all[i*imageSize:][:imageSize])) {
				return
			}
		}
	}
}

// readCopies tells the bytes of all copies. The disk's own errors are those that this layer asks for, in their order: none, out, too few sectors.
func readCopies(d *disk.Disk) ([]byte, api.Errno) {
	return d.Read(0, api.Copies*api.CopySize)
}

// find tells what is open on a disk.
func find(d *disk.Disk) (found, api.Errno) {
	all, e := readCopies(d)
	if e != api.OK {
		return found{}, e
	}
	votes := map[image]int{}
	for _, c := range copies(all) {
		votes[c]++
	}
	f := found{all: all}
	for _, c := range copies(all) {
		if votes[c] < enough {
			continue
		}
		// Of one Sequence the first copy counts: only a greater one takes its place. None that is whole has the Sequence 0.
		if s, e := Read(c[:]); e == api.OK && s.Sequence > f.s.Sequence {
			f.open, f.s = c, s
		}
	}
	if f.s.Sequence == 0 {
		return found{}, api.ErrQuorum
	}
	return f, api.OK
}

// mend writes the open bytes to all copies that have others: half of the copies are to be overwritten next, and the other half must do without them.
func (f found) mend(d *disk.Disk) api.Errno {
	mended := false
	for i, c := range copies(f.all) {
		if c == f.open {
			continue
		}
		if e := d.Write(i*api.CopySize, f.open[:]); e != api.OK {
			return e
		}
		mended = true
	}
	if !mended {
		return api.OK
	}
	return d.Flush()
}

// keep writes bytes from a copy on, and flushes them.
func keep(d *disk.Disk, from int, b []byte) api.Errno {
	if e := d.Write(from*api.CopySize, b); e != api.OK {
		return e
	}
	return d.Flush()
}

// Format writes the first superblock.
func Format(d *disk.Disk, s api.Super) api.Errno {
	// That there is no disk comes ahead of what s is; that it is out, or too small, its Write tells behind that.
	if _, e := readCopies(d); e == api.ErrNil {
		return e
	}
	s.Sequence = 1
	b, e := Bytes(s)
	if e != api.OK {
		return e
	}
	return keep(d, 0, bytes.Repeat(b, api.Copies))
}

// Open tells what is open.
func Open(d *disk.Disk) (api.Super, api.Errno) {
	f, e := find(d)
	return f.s, e
}

// Write writes the next superblock.
func Write(d *disk.Disk, s api.Super) (api.Super, api.Errno) {
	f, e := find(d)
	if e != api.OK {
		return api.Super{}, e
	}
	if f.s.Sequence == api.MaxOp {
		return api.Super{}, api.ErrFull
	}
	s.Sequence = f.s.Sequence + 1
	b, e := Bytes(s)
	if e != api.OK {
		return api.Super{}, e
	}
	if e := f.mend(d); e != api.OK {
		return api.Super{}, e
	}
	half := bytes.Repeat(b, enough)
	for from := 0; from < api.Copies; from += enough {
		if e := keep(d, from, half); e != api.OK {
			return api.Super{}, e
		}
	}
	s.Heads = append([]api.Head(nil), s.Heads...)
	return s, api.OK
}
