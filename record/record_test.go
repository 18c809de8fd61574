package record_test

import (
	"bytes"
	"testing"

	"exchequer/api"
	"exchequer/record"
)

// field names a field by where its bytes begin, how many they are, and how a record gets it.
type field[R any] struct {
	name     string
	at, size int
	set      func(*R, api.U128)
}

func accountFields() []field[api.Account] {
	return []field[api.Account]{
		{"ID", 0, 16, func(a *api.Account, x api.U128) { a.ID = x }},
		{"DebitsPending", 16, 16, func(a *api.Account, x api.U128) { a.DebitsPending = x }},
		{"DebitsPosted", 32, 16, func(a *api.Account, x api.U128) { a.DebitsPosted = x }},
		{"CreditsPending", 48, 16, func(a *api.Account, x api.U128) { a.CreditsPending = x }},
		{"CreditsPosted", 64, 16, func(a *api.Account, x api.U128) { a.CreditsPosted = x }},
		{"User128", 80, 16, func(a *api.Account, x api.U128) { a.User128 = x }},
		{"User64", 96, 8, func(a *api.Account, x api.U128) { a.User64 = x.Lo }},
		{"User32", 104, 4, func(a *api.Account, x api.U128) { a.User32 = uint32(x.Lo) }},
		{"Reserved", 108, 4, func(a *api.Account, x api.U128) { a.Reserved = uint32(x.Lo) }},
		{"Ledger", 112, 4, func(a *api.Account, x api.U128) { a.Ledger = uint32(x.Lo) }},
		{"Code", 116, 2, func(a *api.Account, x api.U128) { a.Code = uint16(x.Lo) }},
		{"Flags", 118, 2, func(a *api.Account, x api.U128) { a.Flags = uint16(x.Lo) }},
		{"Time", 120, 8, func(a *api.Account, x api.U128) { a.Time = x.Lo }},
	}
}

func transferFields() []field[api.Transfer] {
	return []field[api.Transfer]{
		{"ID", 0, 16, func(t *api.Transfer, x api.U128) { t.ID = x }},
		{"Debit", 16, 16, func(t *api.Transfer, x api.U128) { t.Debit = x }},
		{"Credit", 32, 16, func(t *api.Transfer, x api.U128) { t.Credit = x }},
		{"Amount", 48, 16, func(t *api.Transfer, x api.U128) { t.Amount = x }},
		{"Pending", 64, 16, func(t *api.Transfer, x api.U128) { t.Pending = x }},
		{"User128", 80, 16, func(t *api.Transfer, x api.U128) { t.User128 = x }},
		{"User64", 96, 8, func(t *api.Transfer, x api.U128) { t.User64 = x.Lo }},
		{"User32", 104, 4, func(t *api.Transfer, x api.U128) { t.User32 = uint32(x.Lo) }},
		{"Timeout", 108, 4, func(t *api.Transfer, x api.U128) { t.Timeout = uint32(x.Lo) }},
		{"Ledger", 112, 4, func(t *api.Transfer, x api.U128) { t.Ledger = uint32(x.Lo) }},
		{"Code", 116, 2, func(t *api.Transfer, x api.U128) { t.Code = uint16(x.Lo) }},
		{"Flags", 118, 2, func(t *api.Transfer, x api.U128) { t.Flags = uint16(x.Lo) }},
		{"Time", 120, 8, func(t *api.Transfer, x api.U128) { t.Time = x.Lo }},
	}
}

// counting is the number whose bytes, the lowest first, are 1, 2, 3 and so on.
var counting = api.U128{Hi: 0x100f0e0d0c0b0a09, Lo: 0x0807060504030201}

var most = api.U128{Hi: 1<<64 - 1, Lo: 1<<64 - 1}

// all is a record of which each field has the counting bytes; its bytes stand beside it.
func all[R any](l []field[R]) (R, []byte) {
	var r R
	b := make([]byte, 128)
	for _, f := range l {
		f.set(&r, counting)
		for i := range f.size {
			b[f.at+i] = byte(i + 1)
		}
	}
	return r, b
}

// checkFields sets one field after the other: its bytes, and no others, must be there; and they must lead back to it alone.
func checkFields[R comparable](t *testing.T, l []field[R], write func(R) []byte, read func([]byte) (R, api.Errno)) {
	t.Helper()
	end := 0
	for _, f := range l {
		if f.at != end {
			t.Fatalf("%s begins at %d, behind %d", f.name, f.at, end)
		}
		end += f.size
		for _, x := range []api.U128{counting, most} {
			var r R
			f.set(&r, x)
			want := make([]byte, 128)
			for i := range f.size {
				want[f.at+i] = byte(i + 1)
				if x == most {
					want[f.at+i] = 255
				}
			}
			if got := write(r); !bytes.Equal(got, want) {
				t.Errorf("%s: %v, want %v", f.name, got, want)
			}
			if got, e := read(want); got != r || e != api.OK {
				t.Errorf("%s: %v %v, want %v", f.name, got, e, r)
			}
		}
	}
	r, b := all(l)
	if got := write(r); !bytes.Equal(got, b) {
		t.Errorf("all fields: %v, want %v", got, b)
	}
	if got, e := read(b); got != r || e != api.OK {
		t.Errorf("all fields: %v %v, want %v", got, e, r)
	}
}

// P2.1: each field of an account at its place, the lowest byte first.
func TestAccountFields(t *testing.T) {
	checkFields(t, accountFields(), record.AccountBytes, record.ReadAccount)
}

// P2.1: each field of a transfer at its place, the lowest byte first.
func TestTransferFields(t *testing.T) {
	checkFields(t, transferFields(), record.TransferBytes, record.ReadTransfer)
}

// P2.1: the chapter's examples.
func TestExamples(t *testing.T) {
	want := make([]byte, 128)
	want[0], want[112], want[116], want[120], want[121] = 1, 2, 3, 2, 1
	a := api.Account{ID: api.U128{Lo: 1}, Ledger: 2, Code: 3, Time: 258}
	if got := record.AccountBytes(a); !bytes.Equal(got, want) {
		t.Error(got)
	}
	want = make([]byte, 128)
	want[48], want[108] = 9, 7
	if got := record.TransferBytes(api.Transfer{Amount: api.U128{Lo: 9}, Timeout: 7}); !bytes.Equal(got, want) {
		t.Error(got)
	}
	if x, e := record.ReadAccount(make([]byte, 127)); x != (api.Account{}) || e != api.ErrBytes {
		t.Error(x, e)
	}
	if l, e := record.ReadAccounts(make([]byte, 129)); len(l) != 0 || e != api.ErrBytes {
		t.Error(l, e)
	}
	if l, e := record.ReadAccounts(make([]byte, 1152)); len(l) != 0 || e != api.ErrLong {
		t.Error(l, e)
	}
	if l, e := record.ReadTransfers(nil); len(l) != 0 || e != api.OK {
		t.Error(l, e)
	}
}

// P2.1: records of zeros are 128 zeros.
func TestZeroRecords(t *testing.T) {
	zeros := make([]byte, 128)
	if b := record.AccountBytes(api.Account{}); !bytes.Equal(b, zeros) {
		t.Error(b)
	}
	if b := record.TransferBytes(api.Transfer{}); !bytes.Equal(b, zeros) {
		t.Error(b)
	}
	if a, e := record.ReadAccount(zeros); a != (api.Account{}) || e != api.OK {
		t.Error(a, e)
	}
	if x, e := record.ReadTransfer(zeros); x != (api.Transfer{}) || e != api.OK {
		t.Error(x, e)
	}
}

// P2.1: any count of bytes but 128 is refused, with a zero record beside the error.
func TestReadRefuses(t *testing.T) {
	for _, b := range [][]byte{nil, {}} {
		if a, e := record.ReadAccount(b); a != (api.Account{}) || e != api.ErrBytes {
			t.Error(a, e)
		}
		if x, e := record.ReadTransfer(b); x != (api.Transfer{}) || e != api.ErrBytes {
			t.Error(x, e)
		}
	}
	for count := range 400 {
		b := bytes.Repeat([]byte{7}, count)
		want := api.ErrBytes
		if count == 128 {
			want = api.OK
		}
		a, e := record.ReadAccount(b)
		if e != want || (e != api.OK) != (a == api.Account{}) {
			t.Errorf("%d bytes: %v %v", count, a, e)
		}
		x, e := record.ReadTransfer(b)
		if e != want || (e != api.OK) != (x == api.Transfer{}) {
			t.Errorf("%d bytes: %v %v", count, x, e)
		}
	}
}

// P2.3 (P2): each byte, at each place, is a part of one record, and is written as it was read.
func TestEveryByteLeadsBack(t *testing.T) {
	for at := range 128 {
		for x := range 256 {
			b := bytes.Repeat([]byte{0x5a}, 128)
			b[at] = byte(x)
			a, e := record.ReadAccount(b)
			if again := record.AccountBytes(a); e != api.OK || !bytes.Equal(again, b) {
				t.Fatalf("account, byte %d is %d: %v %v", at, x, again, e)
			}
			r, e := record.ReadTransfer(b)
			if again := record.TransferBytes(r); e != api.OK || !bytes.Equal(again, b) {
				t.Fatalf("transfer, byte %d is %d: %v %v", at, x, again, e)
			}
		}
	}
}

// P2.3 (P2): 128 bytes of any kind lead back, and what they are read as does.
func FuzzRecords(f *testing.F) {
	_, b := all(accountFields())
	f.Add(b)
	f.Add(make([]byte, 128))
	f.Add(bytes.Repeat([]byte{255}, 128))
	f.Add(bytes.Repeat([]byte{255}, 127))
	f.Fuzz(func(t *testing.T, b []byte) {
		a, e := record.ReadAccount(b)
		x, xe := record.ReadTransfer(b)
		if e != xe || (e == api.OK) != (len(b) == 128) {
			t.Fatal(len(b), e, xe)
		}
		if e != api.OK {
			return
		}
		again, other := record.AccountBytes(a), record.TransferBytes(x)
		if !bytes.Equal(again, b) || !bytes.Equal(other, b) {
			t.Error(b, again, other)
		}
		if back, e := record.ReadAccount(again); back != a || e != api.OK {
			t.Error(back, e)
		}
		if back, e := record.ReadTransfer(other); back != x || e != api.OK {
			t.Error(back, e)
		}
	})
}

// Rule 4: each answer is new memory, its spare room too.
func TestBytesAreNew(t *testing.T) {
	a, want := all(accountFields())
	x, _ := all(transferFields())
	first, second := record.AccountBytes(a), record.AccountBytes(a)
	clear(first[:cap(first)])
	if !bytes.Equal(second, want) || !bytes.Equal(record.AccountBytes(a), want) {
		t.Error(second)
	}
	first, second = record.TransferBytes(x), record.TransferBytes(x)
	clear(first[:cap(first)])
	if !bytes.Equal(second, want) || !bytes.Equal(record.TransferBytes(x), want) {
		t.Error(second)
	}
}

// Rule 4: bytes that are handed in are not changed, and their spare room is not read.
func TestReadLeavesBytes(t *testing.T) {
	room := make([]byte, 300)
	for i := range room {
		room[i] = byte(i)*7 + 1
	}
	was := bytes.Clone(room)
	alone, _ := record.ReadAccount(room[:128:128])
	if a, e := record.ReadAccount(room[:128]); a != alone || e != api.OK {
		t.Error(a, e)
	}
	aloneToo, _ := record.ReadTransfer(room[:128:128])
	if x, e := record.ReadTransfer(room[:128]); x != aloneToo || e != api.OK {
		t.Error(x, e)
	}
	if _, e := record.ReadAccount(room[:127]); e != api.ErrBytes {
		t.Error(e)
	}
	if _, e := record.ReadTransfer(room[:127]); e != api.ErrBytes {
		t.Error(e)
	}
	if !bytes.Equal(room, was) {
		t.Error(room)
	}
}
