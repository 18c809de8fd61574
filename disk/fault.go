package disk

import "exchequer/api"

// torn is how many of its new bytes a torn sector has.
const torn = api.Sector / 2

// Turn turns bits of a byte.
func (d *Disk) Turn(sector, at int, mask byte) api.Errno {
	if !d.made() {
		return api.ErrNil
	}
	if sector < 0 || sector >= len(d.sectors) || at < 0 || at >= api.Sector {
		return api.ErrRange
	}
	d.sectors[sector][at] ^= mask
	return api.OK
}

// Crash lets a disk crash.
func (d *Disk) Crash(keeps []bool, tear int) api.Errno {
	if !d.made() {
		return api.ErrNil
	}
	stayed := 0
	for i, at := range d.Loose() {
		old := d.old[at]
		if i >= len(keeps) || !keeps[i] {
			d.sectors[at] = old
			continue
		}
		if stayed == tear {
			copy(d.sectors[at][torn:], old[torn:])
		}
		stayed++
	}
	d.settle()
	d.fuse, d.out = nil, false
	return api.OK
}
