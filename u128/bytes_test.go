package u128_test

import (
	"bytes"
	"slices"
	"testing"

	"exchequer/api"
	"exchequer/u128"
)

// P1.2: Bytes and Key, place by place, and the chapter's examples.
func TestBytesAndKey(t *testing.T) {
	for _, c := range []struct {
		a   api.U128
		key [16]byte
	}{
		{n(0, 0), [16]byte{}},
		{n(0, 258), [16]byte{14: 1, 15: 2}},
		{n(1, 0), [16]byte{7: 1}},
		{n(0, most), [16]byte{8: 255, 255, 255, 255, 255, 255, 255, 255}},
		{n(0x0102030405060708, 0x090a0b0c0d0e0f10), [16]byte{1, 2, 3, 4, 5, 6, 7, 8, 9, 10, 11, 12, 13, 14, 15, 16}},
		{n(1<<63, 0), [16]byte{0: 128}},
	} {
		if got := u128.Key(c.a); !bytes.Equal(got, c.key[:]) {
			t.Errorf("Key(%v): %v, want %v", c.a, got, c.key)
		}
		want := c.key
		slices.Reverse(want[:])
		if got := u128.Bytes(c.a); got != want {
			t.Errorf("Bytes(%v): %v, want %v", c.a, got, want)
		}
	}
}

// P1.2: Read and ReadKey take the two orders apart.
func TestRead(t *testing.T) {
	b := []byte{1, 2, 3, 4, 5, 6, 7, 8, 9, 10, 11, 12, 13, 14, 15, 16}
	if a, e := u128.Read(b); a != n(0x100f0e0d0c0b0a09, 0x0807060504030201) || e != api.OK {
		t.Error(a, e)
	}
	if a, e := u128.ReadKey(b); a != n(0x0102030405060708, 0x090a0b0c0d0e0f10) || e != api.OK {
		t.Error(a, e)
	}
}

// P1.2: any other count of bytes is refused, with zero beside the error.
func TestReadRefuses(t *testing.T) {
	for count := range 40 {
		b := bytes.Repeat([]byte{7}, count)
		want := api.ErrBytes
		if count == 16 {
			want = api.OK
		}
		a, e := u128.Read(b)
		k, ke := u128.ReadKey(b)
		if e != want || ke != want {
			t.Errorf("%d bytes: %v %v", count, e, ke)
		}
		if want != api.OK && (a != (api.U128{}) || k != (api.U128{})) {
			t.Errorf("%d bytes: %v %v beside an error", count, a, k)
		}
	}
	for _, f := range []func([]byte) (api.U128, api.Errno){u128.Read, u128.ReadKey} {
		if a, e := f(nil); a != (api.U128{}) || e != api.ErrBytes {
			t.Error(a, e)
		}
	}
}

// P1.4 (P2): bytes and keys lead back.
func TestBytesLeadBack(t *testing.T) {
	for _, a := range edges() {
		b := u128.Bytes(a)
		if back, e := u128.Read(b[:]); back != a || e != api.OK {
			t.Errorf("bytes of %v: %v %v", a, back, e)
		}
		if back, e := u128.ReadKey(u128.Key(a)); back != a || e != api.OK {
			t.Errorf("key of %v: %v %v", a, back, e)
		}
	}
}

// P1.4 (P2): every single byte of 16 counts, and leads back from bytes too.
func TestEveryByteLeadsBack(t *testing.T) {
	for at := range 16 {
		for x := range 256 {
			b := bytes.Repeat([]byte{0x5a}, 16)
			b[at] = byte(x)
			a, e := u128.Read(b)
			if again := u128.Bytes(a); e != api.OK || !bytes.Equal(again[:], b) {
				t.Errorf("bytes %v: %v %v", b, again, e)
			}
			k, e := u128.ReadKey(b)
			if again := u128.Key(k); e != api.OK || !bytes.Equal(again, b) {
				t.Errorf("key %v: %v %v", b, again, e)
			}
		}
	}
}

// P1.4: keys are sorted as the numbers are.
func TestKeysSorted(t *testing.T) {
	for _, a := range edges() {
		for _, b := range edges() {
			if got, want := bytes.Compare(u128.Key(a), u128.Key(b)), u128.Cmp(a, b); got != want {
				t.Errorf("keys of %v and %v: %d, want %d", a, b, got, want)
			}
		}
	}
}

// Rule 4: a key is new memory, with no spare room that is shared.
func TestKeyIsNew(t *testing.T) {
	a := n(3, 4)
	first, second := u128.Key(a), u128.Key(a)
	clear(first[:cap(first)])
	if back, e := u128.ReadKey(second); back != a || e != api.OK {
		t.Error(back, e)
	}
	if back, e := u128.ReadKey(u128.Key(a)); back != a || e != api.OK {
		t.Error(back, e)
	}
}

// Rule 4: bytes that are handed in are not changed; their spare room is not read.
func TestReadLeavesBytes(t *testing.T) {
	room := make([]byte, 32)
	for i := range room {
		room[i] = byte(200 + i)
	}
	was := bytes.Clone(room)
	full, _ := u128.Read(room[:16:16])
	if a, e := u128.Read(room[:16]); a != full || e != api.OK {
		t.Error(a, e)
	}
	fullKey, _ := u128.ReadKey(room[:16:16])
	if a, e := u128.ReadKey(room[:16]); a != fullKey || e != api.OK {
		t.Error(a, e)
	}
	if _, e := u128.Read(room[:15]); e != api.ErrBytes {
		t.Error(e)
	}
	if _, e := u128.ReadKey(room[:15]); e != api.ErrBytes {
		t.Error(e)
	}
	if !bytes.Equal(room, was) {
		t.Error(room)
	}
}
