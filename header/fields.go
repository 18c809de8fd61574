package header

import (
	"exchequer/api"
	"exchequer/checksum"
	"exchequer/u128"
)

// Where the header's bytes have what is no number of four bytes, and how many bytes that has; from noughtsAt on nothing stands.
const (
	sealSize   = 16
	bodySealAt = 16
	clientAt   = 68
	clientSize = 16
	timeAt     = 92
	timeSize   = 8
	noughtsAt  = 108
)

// numberSize is how many bytes each number of numbers has, and numberCount how many of them a header has.
const (
	numberSize  = 4
	numberCount = 13
)

// field is where a number stands in the header's bytes, and what it may be.
type field struct{ at, least, most int }

// fields has the numbers in the order in which own's method tells them.
var fields = [numberCount]field{
	{32, 1, api.MaxCommand},
	{36, 0, api.MaxReplica},
	{40, 0, api.MaxBody},
	{44, 0, api.MaxOp},
	{48, 0, api.MaxOp},
	{52, 0, api.MaxOp},
	{56, 0, api.MaxOp},
	{60, 0, api.MaxOp},
	{64, 0, api.MaxOp},
	{84, 0, api.MaxOp},
	{88, 0, api.MaxOp},
	{100, 0, api.MaxOp},
	{104, 0, api.MaxOp},
}

// own is a copy of a header that a call has for itself, so that its fields can be pointed at: whoever handed the header in keeps another one.
type own api.Header

// numbers points at the numbers of four bytes, in the order of their places: one list serves to look at them, to lay them and to read them.
func (h *own) numbers() [numberCount]*int {
	return [numberCount]*int{
		&h.Command, &h.Replica, &h.Size,
		&h.View, &h.LogView,
		&h.Op, &h.Parent, &h.Commit, &h.Mark,
		&h.Request, &h.Operation,
		&h.Address, &h.Stamp,
	}
}

// bytes tells the bytes of a header that may be, with the seal of its body.
func (h *own) bytes(body [sealSize]byte) [api.HeaderSize]byte {
	var b [api.HeaderSize]byte
	copy(b[bodySealAt:], body[:])
	for i, number := range h.numbers() {
		lay(b[fields[i].at:][:numberSize], uint64(*number))
	}
	client := u128.Bytes(h.Client)
	copy(b[clientAt:], client[:])
	lay(b[timeAt:][:timeSize], h.Time)
	// The header's seal comes last, as it is that of all behind it.
	seal := checksum.Sum(b[sealSize:])
	copy(b[:], seal[:])
	return b
}

// headerOf tells the header of 256 bytes, whether it may be or not.
func headerOf(b []byte) api.Header {
	var h own
	for i, number := range h.numbers() {
		*number = int(take(b[fields[i].at:][:numberSize]))
	}
	// No error can come here: u128.Read refuses other counts of bytes alone.
	h.Client, _ = u128.Read(b[clientAt:][:clientSize])
	h.Time = take(b[timeAt:][:timeSize])
	return api.Header(h)
}

// sealAt tells the seal that stands at a place of b.
func sealAt(b []byte, at int) [sealSize]byte {
	var seal [sealSize]byte
	copy(seal[:], b[at:])
	return seal
}

// lay lays a number's lowest bytes, as many as room has, the lowest first.
func lay(room []byte, x uint64) {
	for i := range room {
		room[i] = byte(x >> (8 * i))
	}
}

// take tells the number whose bytes, the lowest first, are those of b.
func take(b []byte) uint64 {
	var x uint64
	for i, c := range b {
		x |= uint64(c) << (8 * i)
	}
	return x
}

// noughts tells whether all bytes are noughts.
func noughts(b []byte) bool {
	for _, c := range b {
		if c != 0 {
			return false
		}
	}
	return true
}
