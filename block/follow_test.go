package block_test

import (
	"bytes"
	"fmt"
	"math/rand"
	"testing"

	"exchequer/api"
	"exchequer/block"
)

// chanced is a block that may be, by chance: with noughts in its body as often as not.
func chanced(chance *rand.Rand) api.GridBlock {
	ref := func() api.Ref { return api.Ref{Address: 1 + chance.Intn(512), Stamp: chance.Intn(most + 1)} }
	b := api.GridBlock{Kind: 1 + chance.Intn(15), Ref: ref()}
	for range chance.Intn(17) {
		b.Refs = append(b.Refs, ref())
	}
	b.Body = make([]byte, chance.Intn(861))
	for i := range b.Body {
		if chance.Intn(2) == 0 {
			b.Body[i] = byte(chance.Intn(256))
		}
	}
	return b
}

// P10.2: a block that is written is read as it was, and what is read is written as the same bytes.
func TestThereAndBack(t *testing.T) {
	l := blocks()
	chance := rand.New(rand.NewSource(10))
	for range 3000 {
		l = append(l, chanced(chance))
	}
	for _, b := range l {
		raw := written(t, b)
		x := read(t, raw)
		if !same(x, b) {
			t.Errorf("%+v is read as %+v", b, x)
		}
		if again := written(t, x); !bytes.Equal(again, raw) {
			t.Errorf("%+v: written again: %x, was %x", b, again, raw)
		}
	}
}

// P10.2: with Refs and a body that are nil or empty, a block has the same bytes.
func TestNilAndEmpty(t *testing.T) {
	want := written(t, least())
	for _, refs := range [][]api.Ref{nil, {}} {
		for _, body := range [][]byte{nil, {}} {
			b := least()
			b.Refs, b.Body = refs, body
			raw := written(t, b)
			if !bytes.Equal(raw, want) {
				t.Errorf("%+v: %x", b, raw)
			}
			if x := read(t, raw); !same(x, least()) {
				t.Errorf("read as %+v", x)
			}
		}
	}
}

// P10.2: no two blocks have the same bytes, nor the same seal.
func TestNoTwoAreAlike(t *testing.T) {
	seen := map[[16]byte]api.GridBlock{}
	for _, b := range blocks() {
		seal := [16]byte(written(t, b))
		if x, there := seen[seal]; there && !same(x, b) {
			t.Errorf("%+v and %+v have one seal", b, x)
		}
		seen[seal] = b
	}
}

// P10.2: any bytes under a right seal that are read are written as the same bytes: blocks' bytes of which some were set anew.
func TestWhatIsReadIsWritten(t *testing.T) {
	chance := rand.New(rand.NewSource(11))
	taken := 0
	for range 20000 {
		raw := written(t, chanced(chance))
		for range 1 + chance.Intn(3) {
			at := 16 + chance.Intn(1008)
			if chance.Intn(2) == 0 {
				at = 16 + chance.Intn(bodyAt-16)
			}
			raw[at] = byte(chance.Intn(256) >> chance.Intn(9))
		}
		reseal(raw)
		wantRead(t, "set anew", raw)
		if b, e := block.Read(raw); e == api.OK {
			taken++
			if !bytes.Equal(written(t, b), raw) {
				t.Errorf("%+v is not written as %x", b, raw)
			}
		}
	}
	if taken < 1000 || taken > 19000 {
		t.Errorf("%d were read, which tells little", taken)
	}
}

// P10.2: each bit of a block's bytes, turned: in the seal, in the numbers, in the Refs, in the noughts, in the body.
func TestTurnedBits(t *testing.T) {
	for _, b := range []api.GridBlock{least(), of(1, 2), of(7, 500), greatest()} {
		raw := written(t, b)
		for at := range raw {
			for bit := range 8 {
				raw[at] ^= 1 << bit
				refuseRead(t, fmt.Sprintf("the bit %d at %d turned", bit, at), raw, api.ErrSeal)
				raw[at] ^= 1 << bit
			}
		}
	}
}

// P10.2: each byte turned, together with one of another part, by the same turn and by another one.
func TestTurnedPairs(t *testing.T) {
	for _, b := range []api.GridBlock{least(), of(7, 500)} {
		raw := written(t, b)
		for at := range raw {
			for _, other := range []int{0, 15, kindAt, addressAt, countAt, sizeAt, refsAt, bodyAt - 1, bodyAt, 1023} {
				if at == other {
					continue
				}
				for _, turn := range []byte{0x41, 0xff, 1} {
					turned := bytes.Clone(raw)
					turned[at] ^= 0x41
					turned[other] ^= turn
					refuseRead(t, fmt.Sprintf("turned at %d and %d", at, other), turned, api.ErrSeal)
				}
			}
		}
	}
}

// P10.2: many bytes turned at once, a stretch of them, and all.
func TestManyTurned(t *testing.T) {
	chance := rand.New(rand.NewSource(12))
	for range 300 {
		raw := written(t, chanced(chance))
		for range 20 {
			turned := bytes.Clone(raw)
			for _, at := range chance.Perm(1024)[:1+chance.Intn(40)] {
				turned[at] ^= byte(1 + chance.Intn(255))
			}
			refuseRead(t, "many turned", turned, api.ErrSeal)
			turned = bytes.Clone(raw)
			from := chance.Intn(1024)
			to := from + 1 + chance.Intn(1024-from)
			spoil(turned[from:to:to])
			refuseRead(t, "a stretch turned", turned, api.ErrSeal)
		}
		spoil(raw)
		refuseRead(t, "all turned", raw, api.ErrSeal)
	}
}

// P10.2: the front of one block and the rest of another one, cut at each place where both are not the same.
func TestMixedBlocks(t *testing.T) {
	one, other := written(t, of(16, 860)), written(t, greatest())
	for at := 1; at < 1024; at++ {
		mixed := append(bytes.Clone(one[:at]), other[at:]...)
		refuseRead(t, fmt.Sprint("cut at ", at), mixed, api.ErrSeal)
	}
	for at := 0; at < 1024; at += 256 {
		torn := bytes.Clone(one)
		clear(torn[at : at+256])
		refuseRead(t, fmt.Sprint("noughts from ", at), torn, api.ErrSeal)
	}
}

// FuzzRead looks for bytes, sealed or not, that are read as a block, but are not its own.
func FuzzRead(f *testing.F) {
	for _, b := range []api.GridBlock{least(), of(1, 2), of(7, 500), greatest()} {
		f.Add(laid(b), true)
		f.Add(laid(b)[:1023], false)
	}
	f.Add([]byte{}, true)
	f.Fuzz(func(t *testing.T, raw []byte, seal bool) {
		raw = bytes.Clone(raw)
		if seal && len(raw) >= 16 {
			reseal(raw)
		}
		wantRead(t, "by chance", raw)
		if b, e := block.Read(raw); e == api.OK && !bytes.Equal(written(t, b), raw) {
			t.Errorf("%+v is not written as %x", b, raw)
		}
	})
}
