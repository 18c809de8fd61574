package record

import (
	"exchequer/api"
	"exchequer/u128"
)

// cursor stands in a record's bytes, at the first one of the field that comes next. It is handed on by value: each method answers the cursor behind its field, so that a record's fields stand in one chain, in the document's order.
type cursor struct{ rest []byte }

func (c cursor) lay128(x api.U128) cursor {
	b := u128.Bytes(x)
	copy(c.rest, b[:])
	return cursor{c.rest[len(b):]}
}

func (c cursor) lay64(x uint64) cursor { return c.lay(x, 8) }

func (c cursor) lay32(x uint32) cursor { return c.lay(uint64(x), 4) }

func (c cursor) lay16(x uint16) cursor { return c.lay(uint64(x), 2) }

// lay lays a number's lowest bytes, so many as size says, the lowest first.
func (c cursor) lay(x uint64, size int) cursor {
	for i := range size {
		c.rest[i] = byte(x >> (8 * i))
	}
	return cursor{c.rest[size:]}
}

func (c cursor) take128(x *api.U128) cursor {
	const size = 16
	// No error can come here: u128.Read refuses other counts of bytes alone.
	*x, _ = u128.Read(c.rest[:size])
	return cursor{c.rest[size:]}
}

func (c cursor) take64(x *uint64) cursor {
	w, next := c.take(8)
	*x = w
	return next
}

func (c cursor) take32(x *uint32) cursor {
	w, next := c.take(4)
	*x = uint32(w)
	return next
}

func (c cursor) take16(x *uint16) cursor {
	w, next := c.take(2)
	*x = uint16(w)
	return next
}

// take tells the number of the next bytes, so many as size says, the lowest first.
func (c cursor) take(size int) (uint64, cursor) {
	var w uint64
	for i, x := range c.rest[:size] {
		w |= uint64(x) << (8 * i)
	}
	return w, cursor{c.rest[size:]}
}
