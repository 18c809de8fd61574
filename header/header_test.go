package header_test

import (
	"bytes"
	"crypto/sha256"
	"encoding/binary"
	"math"
	"testing"

	"exchequer/api"
	"exchequer/header"
)

// number is one of the header's numbers: its name, where it stands, the greatest that it may be, and the field itself.
type number struct {
	name     string
	at, most int
	of       func(*api.Header) *int
}

// ops are the numbers that go from 0 to MaxOp, as the chapter lists their places.
func ops() []number {
	const most = 1 << 30
	return []number{
		{"View", 44, most, func(h *api.Header) *int { return &h.View }},
		{"LogView", 48, most, func(h *api.Header) *int { return &h.LogView }},
		{"Op", 52, most, func(h *api.Header) *int { return &h.Op }},
		{"Parent", 56, most, func(h *api.Header) *int { return &h.Parent }},
		{"Commit", 60, most, func(h *api.Header) *int { return &h.Commit }},
		{"Mark", 64, most, func(h *api.Header) *int { return &h.Mark }},
		{"Request", 84, most, func(h *api.Header) *int { return &h.Request }},
		{"Operation", 88, most, func(h *api.Header) *int { return &h.Operation }},
		{"Address", 100, most, func(h *api.Header) *int { return &h.Address }},
		{"Stamp", 104, most, func(h *api.Header) *int { return &h.Stamp }},
	}
}

// numbers are all the numbers of four bytes.
func numbers() []number {
	return append(ops(),
		number{"Command", 32, 31, func(h *api.Header) *int { return &h.Command }},
		number{"Replica", 36, 6, func(h *api.Header) *int { return &h.Replica }},
		number{"Size", 40, 1024, func(h *api.Header) *int { return &h.Size }},
	)
}

// least is a header that may be and says no more than it must.
func least() api.Header { return api.Header{Command: 1} }

// full is a header in which each field is set, no two alike, and no two bytes of one.
func full() api.Header {
	return api.Header{
		Command: 30, Replica: 5,
		View: 0x31323334, LogView: 0x21222324,
		Op: 0x11121314, Parent: 0x01020304, Commit: 0x35363738, Mark: 0x25262728,
		Client:  api.U128{Hi: 0xf0e1d2c3b4a59687, Lo: 0x78695a4b3c2d1e0f},
		Request: 0x15161718, Operation: 0x05060708,
		Time:    0x8899aabbccddeeff,
		Address: 0x393a3b3c, Stamp: 0x292a2b2c,
	}
}

// greatest is a header in which each field but Size is the greatest that it may be.
func greatest() api.Header {
	h := api.Header{Command: 31, Replica: 6, Client: api.U128{Hi: math.MaxUint64, Lo: math.MaxUint64}, Time: math.MaxUint64}
	for _, x := range ops() {
		*x.of(&h) = x.most
	}
	return h
}

// some is a body of bytes of which no two that stand near are the same.
func some(count int) []byte {
	b := make([]byte, count)
	for i := range b {
		b[i] = byte(i*i*5 + i*29 + count + 1)
	}
	return b
}

// put lays a seal, the library's own, of what it is handed.
func put(room, of []byte) {
	whole := sha256.Sum256(of)
	copy(room[:16], whole[:16])
}

// reseal lays the header's seal anew, so that what was changed behind it is sealed.
func reseal(b []byte) []byte {
	put(b, b[16:256])
	return b
}

// laid is a message's bytes, laid by the chapter's words.
func laid(h api.Header, body []byte) []byte {
	h.Size = len(body)
	b := make([]byte, 256, 256+len(body))
	put(b[16:], body)
	for _, x := range numbers() {
		binary.LittleEndian.PutUint32(b[x.at:], uint32(*x.of(&h)))
	}
	binary.LittleEndian.PutUint64(b[68:], h.Client.Lo)
	binary.LittleEndian.PutUint64(b[76:], h.Client.Hi)
	binary.LittleEndian.PutUint64(b[92:], h.Time)
	return append(reseal(b), body...)
}

// messages are messages that may be: with and without a body, at the edges and between them.
func messages() []api.Message {
	var l []api.Message
	for _, h := range []api.Header{least(), full(), greatest()} {
		for _, count := range []int{0, 1, 2, 39, 255, 256, 257, 1023, 1024} {
			h.Size = count
			l = append(l, api.Message{H: h, Body: some(count)})
		}
	}
	return l
}

// same tells whether two messages are the same; lists that are nil or empty are.
func same(a, b api.Message) bool { return a.H == b.H && bytes.Equal(a.Body, b.Body) }

// sealed is Seal's answer where none but OK may be.
func sealed(t *testing.T, m api.Message) []byte {
	t.Helper()
	b, e := header.Seal(m)
	if e != api.OK {
		t.Fatalf("Seal(%+v): %v", m.H, e)
	}
	return b
}

// refuseSeal, refuseHead and refuseOpen want an error, with zero values beside it.
func refuseSeal(t *testing.T, what string, m api.Message, want api.Errno) {
	t.Helper()
	if b, e := header.Seal(m); e != want || len(b) != 0 {
		t.Errorf("Seal, %s: %d bytes, %v, want %v", what, len(b), e, want)
	}
}

func refuseHead(t *testing.T, what string, b []byte, want api.Errno) {
	t.Helper()
	if h, e := header.Head(b); e != want || h != (api.Header{}) {
		t.Errorf("Head, %s: %+v, %v, want %v", what, h, e, want)
	}
}

func refuseOpen(t *testing.T, what string, b []byte, want api.Errno) {
	t.Helper()
	if m, e := header.Open(b); e != want || !same(m, api.Message{}) {
		t.Errorf("Open, %s: %+v, %v, want %v", what, m, e, want)
	}
}
