package journal

import (
	"iter"

	"exchequer/api"
	"exchequer/disk"
	"exchequer/slot"
)

// Where the rings of a disk stand, in sectors: behind the superblock's copies that of the headers, and behind that one that of the prepares.
const (
	headsAt    = api.Copies * api.CopySize
	preparesAt = headsAt + api.Slots
	ringsEnd   = preparesAt + api.Slots*api.SlotSize
)

// headSize and prepareSize are how many bytes a slot has in either ring.
const (
	headSize    = api.Sector
	prepareSize = api.SlotSize * api.Sector
)

// states are how all slots are.
type states [api.Slots]api.SlotState

// each goes through the slots, by rising numbers.
func (l states) each() iter.Seq2[int, api.SlotState] {
	return func(yield func(int, api.SlotState) bool) {
		for n, s := range l {
			if !yield(n, s) {
				return
			}
		}
	}
}

// judged goes through the slots of rings that have these bytes, by rising numbers, and looks at each.
func judged(heads, prepares []byte) iter.Seq2[int, api.SlotState] {
	return func(yield func(int, api.SlotState) bool) {
		for n := range api.Slots {
			head, prepare := heads[n*headSize:][:headSize], prepares[n*prepareSize:][:prepareSize]
			if !yield(n, slot.Judge(head, prepare, n)) {
				return
			}
		}
	}
}

// read tells the bytes of a disk's rings. The disk's own errors are those that this layer asks for, in their order: none, out, too few sectors.
func read(d *disk.Disk) (heads, prepares []byte, e api.Errno) {
	b, e := d.Read(headsAt, ringsEnd-headsAt)
	if e != api.OK {
		return nil, nil, e
	}
	at := (preparesAt - headsAt) * api.Sector
	return b[:at], b[at:], api.OK
}

// readPrepare tells the bytes of a slot's prepare.
func readPrepare(d *disk.Disk, n int) ([]byte, api.Errno) {
	return d.Read(preparesAt+n*api.SlotSize, api.SlotSize)
}

// unwritten tells what says that a slot is unwritten. Of a slot's number there is no error.
func unwritten(n int) []byte {
	b, _ := slot.Unwritten(n)
	return b
}

// deed is a change of a disk that is yet to be made.
type deed func() api.Errno

// do does deeds one behind the other, up to the first one that fails.
func do(deeds []deed) api.Errno {
	for _, each := range deeds {
		if e := each(); e != api.OK {
			return e
		}
	}
	return api.OK
}

// writeHead writes the headers of slots from n on.
func writeHead(d *disk.Disk, n int, b []byte) deed {
	return func() api.Errno { return d.Write(headsAt+n, b) }
}

// writePrepare writes the prepares of slots from n on.
func writePrepare(d *disk.Disk, n int, b []byte) deed {
	return func() api.Errno { return d.Write(preparesAt+n*api.SlotSize, b) }
}

// copyHead writes a slot's header as the front of what the disk has as its prepare.
func copyHead(d *disk.Disk, n int) deed {
	return func() api.Errno {
		b, e := readPrepare(d, n)
		if e != api.OK {
			return e
		}
		return d.Write(headsAt+n, b[:api.HeaderSize])
	}
}
