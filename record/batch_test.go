package record_test

import (
	"bytes"
	"slices"
	"testing"

	"exchequer/api"
	"exchequer/record"
)

// batch is the four calls of one kind of record.
type batch[R comparable] struct {
	fields []field[R]
	one    func(R) []byte
	write  func([]R) ([]byte, api.Errno)
	read   func([]byte) ([]R, api.Errno)
}

func accounts() batch[api.Account] {
	return batch[api.Account]{accountFields(), record.AccountBytes, record.AccountsBytes, record.ReadAccounts}
}

func transfers() batch[api.Transfer] {
	return batch[api.Transfer]{transferFields(), record.TransferBytes, record.TransfersBytes, record.ReadTransfers}
}

// records are so many, no two of them alike.
func (k batch[R]) records(count int) []R {
	l := make([]R, count)
	for i := range l {
		l[i], _ = all(k.fields)
		k.fields[i%len(k.fields)].set(&l[i], api.U128{Lo: uint64(1000 + i)})
	}
	return l
}

func (k batch[R]) counts(t *testing.T) {
	t.Helper()
	for count := range 20 {
		l := k.records(count)
		var want []byte
		for _, r := range l {
			want = append(want, k.one(r)...)
		}
		got, e := k.write(l)
		back, re := k.read(want)
		if count > 8 {
			if len(got) != 0 || e != api.ErrLong || len(back) != 0 || re != api.ErrLong {
				t.Errorf("%d records: %v %v, %v %v", count, got, e, back, re)
			}
			continue
		}
		if !bytes.Equal(got, want) || e != api.OK {
			t.Errorf("%d records: %v %v, want %v", count, got, e, want)
		}
		if !slices.Equal(back, l) || re != api.OK {
			t.Errorf("%d records: %v %v, want %v", count, back, re, l)
		}
	}
}

// P2.2, P2.3: batches of 0 to 8 records, in order, there and back; more are refused.
func TestBatches(t *testing.T) {
	t.Run("accounts", func(t *testing.T) { accounts().counts(t) })
	t.Run("transfers", func(t *testing.T) { transfers().counts(t) })
}

func (k batch[R]) none(t *testing.T) {
	t.Helper()
	for _, l := range [][]R{nil, {}} {
		if b, e := k.write(l); len(b) != 0 || e != api.OK {
			t.Error(b, e)
		}
	}
	for _, b := range [][]byte{nil, {}} {
		if l, e := k.read(b); len(l) != 0 || e != api.OK {
			t.Error(l, e)
		}
	}
}

// P2.2: no records are no bytes; nil and empty are the same.
func TestNoRecords(t *testing.T) {
	t.Run("accounts", func(t *testing.T) { accounts().none(t) })
	t.Run("transfers", func(t *testing.T) { transfers().none(t) })
}

func (k batch[R]) bytesOf(t *testing.T, count int) {
	t.Helper()
	b := bytes.Repeat([]byte{7}, count)
	want, records := api.OK, count/128
	switch {
	case count%128 != 0:
		want, records = api.ErrBytes, 0
	case count > 1024:
		want, records = api.ErrLong, 0
	}
	l, e := k.read(b)
	if e != want || len(l) != records {
		t.Errorf("%d bytes: %d records, %v", count, len(l), e)
	}
}

// P2.2: bytes that can't be divided are ErrBytes, ahead of too many records.
func TestReadBatchRefuses(t *testing.T) {
	for count := range 1500 {
		accounts().bytesOf(t, count)
		transfers().bytesOf(t, count)
	}
	for _, count := range []int{1 << 20, 1<<20 + 1, 1<<20 - 1, 1<<20 + 127} {
		accounts().bytesOf(t, count)
		transfers().bytesOf(t, count)
	}
}

func (k batch[R]) memory(t *testing.T) {
	t.Helper()
	room := k.records(10)
	was := slices.Clone(room)
	first, e := k.write(room[:7])
	if e != api.OK {
		t.Fatal(e)
	}
	want := bytes.Clone(first)
	second, _ := k.write(room[:7])
	clear(first[:cap(first)])
	if !bytes.Equal(second, want) || !slices.Equal(room, was) {
		t.Error("bytes share memory with another answer, or with what was handed in")
	}
	clear(room)
	if !bytes.Equal(second, want) {
		t.Error("bytes go with the records")
	}

	bytesRoom := append(bytes.Clone(want), 1, 2, 3, 4)
	held := bytes.Clone(bytesRoom)
	l, e := k.read(bytesRoom[:len(want)])
	if e != api.OK || !slices.Equal(l, was[:7]) {
		t.Fatal(l, e)
	}
	again, _ := k.read(bytesRoom[:len(want)])
	clear(l[:cap(l)])
	if !bytes.Equal(bytesRoom, held) || !slices.Equal(again, was[:7]) {
		t.Error("records share memory with another answer, or with what was handed in")
	}
	clear(bytesRoom)
	if !slices.Equal(again, was[:7]) {
		t.Error("records go with the bytes")
	}
}

// Rule 4: what is handed in stays as it was; what is answered is new memory.
func TestBatchMemory(t *testing.T) {
	t.Run("accounts", func(t *testing.T) { accounts().memory(t) })
	t.Run("transfers", func(t *testing.T) { transfers().memory(t) })
}

// P2.3 (P2): bytes of up to 8 records lead back through both kinds.
func TestBatchBytesLeadBack(t *testing.T) {
	for count := range 9 {
		b := make([]byte, 128*count)
		for i := range b {
			b[i] = byte(i*31 + i/128 + count)
		}
		l, e := record.ReadAccounts(b)
		if again, we := record.AccountsBytes(l); !bytes.Equal(again, b) || e != api.OK || we != api.OK {
			t.Errorf("%d accounts: %v %v", count, e, we)
		}
		x, e := record.ReadTransfers(b)
		if again, we := record.TransfersBytes(x); !bytes.Equal(again, b) || e != api.OK || we != api.OK {
			t.Errorf("%d transfers: %v %v", count, e, we)
		}
	}
}
