package grid

import (
	"exchequer/api"
	"exchequer/block"
	"exchequer/disk"
)

// gridAt is the sector from which on a grid stands: behind the superblock's copies and both rings. blockSectors is how many a block has.
const (
	gridAt       = api.Copies*api.CopySize + api.Slots + api.Slots*api.SlotSize
	blockSectors = api.BlockSize / api.Sector
)

// place tells from which sector on a block stands.
func place(address int) int { return gridAt + (address-1)*blockSectors }

// up tells whether a disk is none, or is out: a Read of no sectors has no other error.
func up(d *disk.Disk) api.Errno {
	_, e := d.Read(0, 0)
	return e
}

// has tells whether a ref is of the grid.
func (g *Grid) has(ref api.Ref) bool {
	return ref.Address >= 1 && ref.Address <= g.blocks && ref.Stamp >= 0 && ref.Stamp <= api.MaxOp
}

// asked tells the errors that whatever is asked of a ref begins with.
func (g *Grid) asked(ref api.Ref) api.Errno {
	if e := g.ready(); e != api.OK {
		return e
	}
	if !g.has(ref) {
		return api.ErrArg
	}
	return api.OK
}

// load tells what a ref of the grid names, and its bytes: ErrFaulty, if it is not there.
func (g *Grid) load(ref api.Ref) (api.GridBlock, []byte, api.Errno) {
	raw, e := g.d.Read(place(ref.Address), blockSectors)
	if e != api.OK {
		return api.GridBlock{}, nil, e
	}
	b, e := block.Read(raw)
	if e != api.OK || b.Ref != ref {
		return api.GridBlock{}, nil, api.ErrFaulty
	}
	return b, raw, api.OK
}

// find loads what a ref names; what is not there is wanted.
func (g *Grid) find(ref api.Ref) (api.GridBlock, []byte, api.Errno) {
	if e := g.asked(ref); e != api.OK {
		return api.GridBlock{}, nil, e
	}
	b, raw, e := g.load(ref)
	if e == api.ErrFaulty {
		g.wanted.add(ref)
	}
	return b, raw, e
}

// Write writes a block.
func (g *Grid) Write(kind int, refs []api.Ref, body []byte, stamp int) (api.Ref, api.Errno) {
	if e := g.ready(); e != api.OK {
		return api.Ref{}, e
	}
	b := api.GridBlock{Kind: kind, Ref: api.Ref{Address: 1, Stamp: stamp}, Refs: refs, Body: body}
	if e := block.Check(b); e != api.OK {
		return api.Ref{}, e
	}
	// Acquired of a copy: the disk may yet fail, and a set takes nothing back.
	set := g.set.Clone()
	address, e := set.Acquire()
	if e != api.OK {
		return api.Ref{}, e
	}
	b.Ref.Address = address
	raw, e := block.Bytes(b)
	if e != api.OK {
		return api.Ref{}, e
	}
	if e := g.d.Write(place(address), raw); e != api.OK {
		return api.Ref{}, e
	}
	g.set = set
	return b.Ref, api.OK
}

// Read tells a block; Raw its bytes.
func (g *Grid) Read(ref api.Ref) (api.GridBlock, api.Errno) {
	b, _, e := g.find(ref)
	return b, e
}

func (g *Grid) Raw(ref api.Ref) ([]byte, api.Errno) {
	_, raw, e := g.find(ref)
	return raw, e
}

// Install writes a block that comes from elsewhere.
func (g *Grid) Install(ref api.Ref, raw []byte) api.Errno {
	if e := g.asked(ref); e != api.OK {
		return e
	}
	b, e := block.Read(raw)
	if e != api.OK {
		return e
	}
	if b.Ref != ref {
		return api.ErrArg
	}
	if e := g.d.Write(place(ref.Address), raw); e != api.OK {
		return e
	}
	g.wanted.drop(ref)
	return api.OK
}

// Flush makes all that was written safe.
func (g *Grid) Flush() api.Errno {
	if !g.made() {
		return api.ErrNil
	}
	return g.d.Flush()
}
