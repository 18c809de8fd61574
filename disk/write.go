package disk

import (
	"slices"

	"exchequer/api"
)

// ready tells the errors that whatever needs a disk that is up begins with.
func (d *Disk) ready() api.Errno {
	if !d.made() {
		return api.ErrNil
	}
	if !d.Up() {
		return api.ErrBroken
	}
	return api.OK
}

// has tells whether n sectors from at on are sectors of the disk. No sum is made: it might wrap.
func (d *Disk) has(at, n int) bool {
	return at >= 0 && n >= 0 && n <= len(d.sectors)-at
}

// Write writes whole sectors.
func (d *Disk) Write(at int, b []byte) api.Errno {
	if e := d.ready(); e != api.OK {
		return e
	}
	if len(b) == 0 || len(b)%api.Sector != 0 {
		return api.ErrArg
	}
	if !d.has(at, len(b)/api.Sector) {
		return api.ErrRange
	}
	return d.change(func() {
		for part := range slices.Chunk(b, api.Sector) {
			d.loosen(at)
			d.sectors[at] = sector(part)
			at++
		}
	})
}

// loosen makes a sector loose. Of one that is so already the old bytes stay: what was written over them was never safe.
func (d *Disk) loosen(at int) {
	if _, loose := d.old[at]; !loose {
		d.old[at] = d.sectors[at]
	}
}

// settle makes all sectors safe as they are.
func (d *Disk) settle() {
	// A new map: one that was great once would be as slow to clear each time from then on.
	d.old = map[int]sector{}
}

// Flush makes all that was written safe.
func (d *Disk) Flush() api.Errno {
	if e := d.ready(); e != api.OK {
		return e
	}
	return d.change(func() { d.settle() })
}

// Read tells the bytes of sectors.
func (d *Disk) Read(at, n int) ([]byte, api.Errno) {
	if e := d.ready(); e != api.OK {
		return nil, e
	}
	if !d.has(at, n) {
		return nil, api.ErrRange
	}
	b := make([]byte, 0, n*api.Sector)
	for i := range n {
		b = append(b, d.sectors[at+i][:]...)
	}
	return b, api.OK
}
