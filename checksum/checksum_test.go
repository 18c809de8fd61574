package checksum_test

import (
	"bytes"
	"crypto/sha256"
	"encoding/hex"
	"strings"
	"testing"

	"exchequer/api"
	"exchequer/checksum"
)

// edges are the counts of bytes at which one more block is needed, or isn't, and those on both sides of them.
var edges = []int{0, 1, 3, 54, 55, 56, 57, 62, 63, 64, 65, 66, 118, 119, 120, 121, 127, 128, 129, 183, 184, 191, 192, 1000, 1024, 1280}

// some is a list of bytes of which no two that stand near are the same.
func some(count int) []byte {
	b := make([]byte, count)
	for i := range b {
		b[i] = byte(i*i*7 + i*31 + count)
	}
	return b
}

// digestOf is the seal as the library of the language's own digest has it.
func digestOf(b []byte) [16]byte {
	whole := sha256.Sum256(b)
	return [16]byte(whole[:16])
}

// P3.1: the chapter's examples of Sum, and those of the digest's own document.
func TestSumExamples(t *testing.T) {
	for _, x := range []struct{ text, want string }{
		{"abc", "ba7816bf8f01cfea414140de5dae2223"},
		{"", "e3b0c44298fc1c149afbf4c8996fb924"},
		{"abcdbcdecdefdefgefghfghighijhijkijkljklmklmnlmnomnopnopq", "248d6a61d20638b8e5c026930c3e6039"},
		{"abcdefghbcdefghicdefghijdefghijkefghijklfghijklmghijklmnhijklmnoijklmnopjklmnopqklmnopqrlmnopqrsmnopqrstnopqrstu", "cf5b16a778af8380036ce59e7b049237"},
		{strings.Repeat("a", 1000000), "cdc76e5c9914fb9281a1c7e284d73e67"},
	} {
		seal := checksum.Sum([]byte(x.text))
		if got := hex.EncodeToString(seal[:]); got != x.want {
			t.Errorf("%d bytes: %s, want %s", len(x.text), got, x.want)
		}
		if !checksum.Right([]byte(x.text), seal) {
			t.Errorf("%d bytes: their seal is not right", len(x.text))
		}
	}
	if checksum.Sum(nil) != checksum.Sum([]byte{}) {
		t.Error("nil and empty differ")
	}
}

// P3.1: each count of bytes up to those of six blocks, and the edges, with bytes of several kinds.
func TestSumOfEachCount(t *testing.T) {
	counts := edges
	for count := range 385 {
		counts = append(counts, count)
	}
	for _, count := range counts {
		for _, b := range [][]byte{some(count), make([]byte, count), bytes.Repeat([]byte{255}, count), bytes.Repeat([]byte{128}, count)} {
			if got, want := checksum.Sum(b), digestOf(b); got != want {
				t.Fatalf("%d bytes: %x, want %x", count, got, want)
			}
		}
	}
}

// P3.1: how many bits there are is told by more than 32 of them.
func TestSumOfMany(t *testing.T) {
	if testing.Short() {
		t.Skip("takes some seconds")
	}
	b := make([]byte, 1<<29+3)
	b[0], b[1<<29] = 1, 2
	if got, want := checksum.Sum(b), digestOf(b); got != want {
		t.Errorf("%x, want %x", got, want)
	}
}

// P3.1: a seal is right for its own bytes alone, and no other seal is right for them.
func TestRight(t *testing.T) {
	for _, count := range edges {
		b := some(count)
		seal := checksum.Sum(b)
		if !checksum.Right(b, seal) {
			t.Errorf("%d bytes: their seal is not right", count)
		}
		for bit := range 128 {
			turned := seal
			turned[bit/8] ^= 1 << (bit % 8)
			if checksum.Right(b, turned) {
				t.Errorf("%d bytes: right with bit %d of the seal turned", count, bit)
			}
		}
		if checksum.Right(append(bytes.Clone(b), 0), seal) {
			t.Errorf("%d bytes: right with one more", count)
		}
		if count > 0 && checksum.Right(b[:count-1], seal) {
			t.Errorf("%d bytes: right with one less", count)
		}
	}
	if checksum.Right(nil, [16]byte{}) {
		t.Error("noughts are the seal of nothing")
	}
}

// P3.2: the chapter's examples of Seal and Open.
func TestSealExamples(t *testing.T) {
	sealed := checksum.Seal([]byte("abc"))
	if want := "ba7816bf8f01cfea414140de5dae2223616263"; hex.EncodeToString(sealed) != want {
		t.Errorf("%x, want %s", sealed, want)
	}
	if b, e := checksum.Open(sealed); string(b) != "abc" || e != api.OK {
		t.Error(b, e)
	}
	sealed[18] ^= 1
	if b, e := checksum.Open(sealed); len(b) != 0 || e != api.ErrSeal {
		t.Error(b, e)
	}
	if b, e := checksum.Open(make([]byte, 15)); len(b) != 0 || e != api.ErrBytes {
		t.Error(b, e)
	}
}

// P3.2: sealed bytes are the seal, and behind it the bytes.
func TestSealLays(t *testing.T) {
	for _, count := range edges {
		b := some(count)
		seal := digestOf(b)
		if got, want := checksum.Seal(b), append(seal[:], b...); !bytes.Equal(got, want) {
			t.Errorf("%d bytes: %x, want %x", count, got, want)
		}
	}
	if got := checksum.Seal(nil); !bytes.Equal(got, checksum.Seal([]byte{})) || len(got) != 16 {
		t.Errorf("%x", got)
	}
}

// P3.2: fewer than 16 bytes are refused as bytes, be they a seal's beginning or not.
func TestOpenOfFew(t *testing.T) {
	nothing := checksum.Seal(nil)
	for count := range 16 {
		for _, b := range [][]byte{nothing[:count], make([]byte, count), some(count)} {
			if got, e := checksum.Open(b); len(got) != 0 || e != api.ErrBytes {
				t.Errorf("%d bytes: %v %v", count, got, e)
			}
		}
	}
	if got, e := checksum.Open(nil); len(got) != 0 || e != api.ErrBytes {
		t.Error(got, e)
	}
}

// P3.2: 16 bytes are the seal of nothing, or a wrong one; 17 carry one byte.
func TestOpenOfSixteenAndMore(t *testing.T) {
	nothing := checksum.Seal(nil)
	if got, e := checksum.Open(nothing); len(got) != 0 || e != api.OK {
		t.Error(got, e)
	}
	for x := range 256 {
		if got, e := checksum.Open(checksum.Seal([]byte{byte(x)})); !bytes.Equal(got, []byte{byte(x)}) || e != api.OK {
			t.Error(x, got, e)
		}
		if got, e := checksum.Open(append(bytes.Clone(nothing), byte(x))); len(got) != 0 || e != api.ErrSeal {
			t.Error(x, got, e)
		}
	}
	for _, count := range []int{16, 17, 64, 1000} {
		if got, e := checksum.Open(make([]byte, count)); len(got) != 0 || e != api.ErrSeal {
			t.Errorf("%d noughts: %v %v", count, got, e)
		}
	}
}

// P3.3 (P2): there and back, and back and there.
func TestThereAndBack(t *testing.T) {
	for _, count := range append([]int{70000}, edges...) {
		b := some(count)
		sealed := checksum.Seal(b)
		opened, e := checksum.Open(sealed)
		if !bytes.Equal(opened, b) || e != api.OK {
			t.Fatalf("%d bytes: not as they were: %v", count, e)
		}
		if again := checksum.Seal(opened); !bytes.Equal(again, sealed) {
			t.Errorf("%d bytes: sealed again they differ", count)
		}
		// Sealed bytes are bytes too.
		twice, e := checksum.Open(checksum.Seal(sealed))
		if !bytes.Equal(twice, sealed) || e != api.OK {
			t.Errorf("%d bytes, sealed twice: %v", count, e)
		}
	}
}

// P3.3 (P3): each bit that is turned, in the seal or behind it, is told; turned back, it is as it was.
func TestTurnedBits(t *testing.T) {
	for _, count := range []int{0, 1, 55, 56, 63, 64, 65, 119, 120, 128, 240} {
		b := some(count)
		sealed := checksum.Seal(b)
		for bit := range 8 * len(sealed) {
			sealed[bit/8] ^= 1 << (bit % 8)
			if got, e := checksum.Open(sealed); len(got) != 0 || e != api.ErrSeal {
				t.Fatalf("%d bytes, bit %d turned: %v %v", count, bit, got, e)
			}
			sealed[bit/8] ^= 1 << (bit % 8)
		}
		if got, e := checksum.Open(sealed); !bytes.Equal(got, b) || e != api.OK {
			t.Errorf("%d bytes, none turned: %v", count, e)
		}
	}
}

// P3.3 (P3): bytes turned in the seal and behind it at once are told, and each value of a turned byte.
func TestTurnedBytes(t *testing.T) {
	sealed := checksum.Seal(some(100))
	for _, at := range []int{0, 15, 16, 17, 70, 115} {
		for x := 1; x < 256; x++ {
			turned := bytes.Clone(sealed)
			turned[at] ^= byte(x)
			if got, e := checksum.Open(turned); len(got) != 0 || e != api.ErrSeal {
				t.Fatalf("byte %d: %v %v", at, got, e)
			}
			turned[(at+16)%116] ^= byte(x)
			if got, e := checksum.Open(turned); len(got) != 0 || e != api.ErrSeal {
				t.Fatalf("byte %d and one more: %v %v", at, got, e)
			}
		}
	}
}

// P3.3 (P3): where the seal is that of the turned bytes again, they are opened as they are.
func TestTurnedAndSealedAgain(t *testing.T) {
	b := some(100)
	sealed := checksum.Seal(b)
	for at := range b {
		b[at] ^= 64
		sealed[16+at] ^= 64
		if got, e := checksum.Open(sealed); len(got) != 0 || e != api.ErrSeal {
			t.Fatalf("byte %d: %v %v", at, got, e)
		}
		seal := checksum.Sum(sealed[16:])
		copy(sealed, seal[:])
		if got, e := checksum.Open(sealed); !bytes.Equal(got, b) || e != api.OK {
			t.Fatalf("byte %d, with the seal of the turned bytes: %v %v", at, got, e)
		}
	}
}

// P3.3 (P3): sealed bytes that are cut, or go on, are told.
func TestCutBytes(t *testing.T) {
	sealed := checksum.Seal(some(130))
	for count := 16; count < len(sealed); count++ {
		if got, e := checksum.Open(sealed[:count]); len(got) != 0 || e != api.ErrSeal {
			t.Errorf("cut to %d: %v %v", count, got, e)
		}
	}
	// These are the bytes that the digest itself lays behind no bytes at all.
	nothing := append(checksum.Seal(nil), 128)
	nothing = append(nothing, make([]byte, 63)...)
	if got, e := checksum.Open(nothing); len(got) != 0 || e != api.ErrSeal {
		t.Error(got, e)
	}
}

// Rule 4: what is handed in stays as it was, and its spare room is neither read nor written.
func TestArgumentsStay(t *testing.T) {
	for _, count := range append([]int{16, 17}, edges...) {
		room := some(count + 200)
		copy(room, checksum.Seal(room[16:max(16, count)]))
		was := bytes.Clone(room)
		b := room[:count]
		alone := bytes.Clone(b)
		seal := checksum.Sum(b)
		if seal != checksum.Sum(alone) || !checksum.Right(b, seal) {
			t.Errorf("%d bytes: the seal hangs on the spare room", count)
		}
		if !bytes.Equal(checksum.Seal(b), checksum.Seal(alone)) {
			t.Errorf("%d bytes: what is sealed hangs on the spare room", count)
		}
		want := api.OK
		if count < 16 {
			want = api.ErrBytes
		}
		if got, e := checksum.Open(b); e != want || (e == api.OK && !bytes.Equal(got, alone[16:])) {
			t.Errorf("%d bytes: %v %v", count, got, e)
		}
		if !bytes.Equal(room, was) {
			t.Errorf("%d bytes: they were changed", count)
		}
	}
}

// spoil writes over a list and its spare room.
func spoil(b []byte) {
	room := b[:cap(b)]
	for i := range room {
		room[i] ^= 0xa5
	}
}

// Rule 4: what is answered is new memory, its spare room too.
func TestAnswersAreNew(t *testing.T) {
	for _, count := range edges {
		room := some(count + 100)
		was := bytes.Clone(room)
		b := room[:count]
		first, second := checksum.Seal(b), checksum.Seal(b)
		wantSealed := bytes.Clone(second)
		spoil(first)
		if !bytes.Equal(second, wantSealed) || !bytes.Equal(room, was) || !bytes.Equal(checksum.Seal(b), wantSealed) {
			t.Errorf("%d bytes: sealed bytes share memory", count)
		}
		one, _ := checksum.Open(second)
		two, _ := checksum.Open(second)
		spoil(one)
		if !bytes.Equal(two, b) || !bytes.Equal(second, wantSealed) {
			t.Errorf("%d bytes: opened bytes share memory", count)
		}
		spoil(second)
		if !bytes.Equal(two, b) {
			t.Errorf("%d bytes: opened bytes share memory with the sealed ones", count)
		}
	}
}

// P3.1 to P3.3: bytes of any kind.
func FuzzSeal(f *testing.F) {
	for _, count := range edges {
		f.Add(some(count))
		f.Add(checksum.Seal(some(count)))
	}
	f.Fuzz(func(t *testing.T, b []byte) {
		if got, want := checksum.Sum(b), digestOf(b); got != want {
			t.Errorf("%x, want %x", got, want)
		}
		if opened, e := checksum.Open(checksum.Seal(b)); !bytes.Equal(opened, b) || e != api.OK {
			t.Error(opened, e)
		}
		want := api.ErrBytes
		if len(b) >= 16 {
			want = api.ErrSeal
			if digestOf(b[16:]) == [16]byte(b) {
				want = api.OK
			}
		}
		opened, e := checksum.Open(b)
		if e != want || (e != api.OK && len(opened) != 0) {
			t.Error(opened, e, want)
		}
		if e == api.OK && !bytes.Equal(checksum.Seal(opened), b) {
			t.Error("sealed again they differ")
		}
	})
}
