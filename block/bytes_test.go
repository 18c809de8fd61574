package block_test

import (
	"bytes"
	"fmt"
	"math"
	"slices"
	"strconv"
	"testing"

	"exchequer/api"
	"exchequer/block"
)

// number is one of a block's numbers, in its Ref or in one of its Refs: what it may be, and the field itself.
type number struct {
	name        string
	least, most int
	of          func(*api.GridBlock) *int
}

// numbers are Kind, and Address and Stamp of the block's own Ref and of each of as many Refs as it has.
func numbers(count int) []number {
	l := []number{
		{"Kind", 1, 15, func(b *api.GridBlock) *int { return &b.Kind }},
		{"Address", 1, 512, func(b *api.GridBlock) *int { return &b.Ref.Address }},
		{"Stamp", 0, most, func(b *api.GridBlock) *int { return &b.Ref.Stamp }},
	}
	for i := range count {
		l = append(l,
			number{fmt.Sprintf("Address of the Ref %d of %d", i, count), 1, 512, func(b *api.GridBlock) *int { return &b.Refs[i].Address }},
			number{fmt.Sprintf("Stamp of the Ref %d of %d", i, count), 0, most, func(b *api.GridBlock) *int { return &b.Refs[i].Stamp }},
		)
	}
	return l
}

// far are numbers far off, some of them such that their lowest bits may be again.
func far() []int {
	l := []int{-2, -15, -512, -most, math.MinInt32, math.MinInt32 + 1, math.MinInt, math.MinInt + 1, most + 2, math.MaxInt32, math.MaxInt, math.MaxInt - 3}
	if strconv.IntSize == 64 {
		one := int64(1)
		for _, shift := range []int{31, 32, 33, 40, 62} {
			l = append(l, int(one<<shift), int(one<<shift+1), int(one<<shift+5), int(1-one<<shift))
		}
	}
	return l
}

// P10.1: each number at the least and the greatest that it may be, one beyond these, and far off; of each of the Refs, however many.
func TestBounds(t *testing.T) {
	for _, count := range counts() {
		for _, x := range numbers(count) {
			set := func(v int) (string, api.GridBlock) {
				b := of(count, 12)
				*x.of(&b) = v
				return fmt.Sprintf("%s: %d", x.name, v), b
			}
			for _, v := range []int{x.least, x.least + 1, x.most - 1, x.most} {
				what, b := set(v)
				wantMay(t, what, b)
			}
			for _, v := range append(far(), x.least-1, x.most+1) {
				what, b := set(v)
				refuse(t, what, b)
			}
		}
	}
}

// P10.1: each Kind.
func TestKinds(t *testing.T) {
	for kind := -20; kind <= 40; kind++ {
		b := of(2, 30)
		b.Kind = kind
		if kind >= 1 && kind <= 15 {
			wantMay(t, fmt.Sprint("Kind ", kind), b)
		} else {
			refuse(t, fmt.Sprint("Kind ", kind), b)
		}
	}
}

// P10.1: as many Refs as may be, and more; a nil list and an empty one.
func TestCountsOfRefs(t *testing.T) {
	for count := range 17 {
		wantMay(t, fmt.Sprint(count, " Refs"), of(count, 3))
	}
	for _, count := range []int{17, 18, 32, 33, 256, 272, 1 << 16, 1<<16 + 3} {
		b := of(0, 3)
		b.Refs = slices.Repeat([]api.Ref{{Address: 4, Stamp: 5}}, count)
		refuse(t, fmt.Sprint(count, " Refs"), b)
	}
	b := of(0, 3)
	b.Refs = nil
	wantMay(t, "nil Refs", b)
	b.Refs = []api.Ref{}
	wantMay(t, "no Refs", b)
	b.Refs = refs(30)[:0]
	wantMay(t, "no Refs, with spare room", b)
	b.Refs = make([]api.Ref, 1)
	refuse(t, "a Ref of noughts", b)
}

// P10.1: as many bytes of a body as may be, and more; nil and empty.
func TestLengthsOfBodies(t *testing.T) {
	for size := range 861 {
		wantMay(t, fmt.Sprint(size, " bytes"), of(2, size))
	}
	for _, size := range []int{861, 862, 1023, 1024, 1024 + 860, 1 << 16, 1<<16 + 2} {
		refuse(t, fmt.Sprint(size, " bytes"), of(2, size))
		b := of(2, 0)
		b.Body = make([]byte, size)
		refuse(t, fmt.Sprint(size, " noughts"), b)
	}
	b := of(2, 0)
	b.Body = nil
	wantMay(t, "a nil body", b)
	b.Body = []byte{}
	wantMay(t, "an empty body", b)
	b.Refs = nil
	wantMay(t, "an empty body and nil Refs", b)
	b.Body = nil
	wantMay(t, "a nil body and nil Refs", b)
}

// P10.1: whatever may be is laid by the chapter's words; one number beyond the greatest, and the zero block, may not be.
func TestBytesLays(t *testing.T) {
	for _, b := range blocks() {
		wantMay(t, fmt.Sprintf("%+v", b), b)
	}
	for _, x := range numbers(16) {
		b := greatest()
		*x.of(&b)++
		refuse(t, x.name+", one beyond", b)
		b = copied(least())
		b.Refs = slices.Repeat([]api.Ref{{Address: 1}}, 16)
		wantMay(t, "the least, with 16 Refs", b)
		*x.of(&b)--
		refuse(t, x.name+", one too few", b)
	}
	refuse(t, "the zero block", api.GridBlock{})
	refuse(t, "all wrong", api.GridBlock{Kind: 16, Ref: api.Ref{Address: 513, Stamp: -1}, Refs: make([]api.Ref, 17), Body: make([]byte, 861)})
}

// P10.1: a block's bytes, as numbers: each field at its place, with its lowest byte first, and noughts where none stands.
func TestPlaces(t *testing.T) {
	b := api.GridBlock{Kind: 14, Ref: api.Ref{Address: 0x102, Stamp: 0x11223344}, Refs: refs(16), Body: some(860)}
	b.Refs[0] = api.Ref{Address: 0x1fe, Stamp: 0x21436587}
	b.Refs[15] = api.Ref{Address: 0x103, Stamp: 0x0a0b0c0d}
	raw := written(t, b)
	for _, x := range []struct {
		at   int
		want []byte
	}{
		{16, []byte{14, 0, 0, 0}},
		{20, []byte{0x02, 0x01, 0, 0}},
		{24, []byte{0x44, 0x33, 0x22, 0x11}},
		{28, []byte{16, 0, 0, 0}},
		{32, []byte{0x5c, 0x03, 0, 0}},
		{36, []byte{0xfe, 0x01, 0, 0, 0x87, 0x65, 0x43, 0x21}},
		{156, []byte{0x03, 0x01, 0, 0, 0x0d, 0x0c, 0x0b, 0x0a}},
		{164, some(860)},
	} {
		if got := raw[x.at : x.at+len(x.want)]; !bytes.Equal(got, x.want) {
			t.Errorf("at %d: %x, want %x", x.at, got, x.want)
		}
	}
	raw = written(t, least())
	for at, c := range raw[16:] {
		want := byte(0)
		if at == 0 || at == 4 {
			want = 1
		}
		if c != want {
			t.Errorf("the least block, at %d: %d", at+16, c)
		}
	}
}

// Rule 4: what Check and Bytes are handed stays as it was, its spare room is neither told nor written, and an answer is new memory.
func TestBytesMemory(t *testing.T) {
	for _, count := range counts() {
		for _, size := range []int{0, 1, 500, 859, 860} {
			refRoom, bodyRoom := refs(count+20), some(size+100)
			refsWere, bodyWas := slices.Clone(refRoom), bytes.Clone(bodyRoom)
			b := of(0, 0)
			b.Refs, b.Body = refRoom[:count], bodyRoom[:size]
			want := laid(copied(b))
			block.Check(b)
			raw, again := written(t, b), written(t, b)
			if !bytes.Equal(raw, want) {
				t.Errorf("%d Refs, %d bytes: the spare room was looked at", count, size)
			}
			spoil(raw)
			if !slices.Equal(refRoom, refsWere) || !bytes.Equal(bodyRoom, bodyWas) {
				t.Errorf("%d Refs, %d bytes: what was handed in has changed, or an answer shares it", count, size)
			}
			spoil(bodyRoom)
			spoilRefs(refRoom)
			if !bytes.Equal(again, want) {
				t.Errorf("%d Refs, %d bytes: two answers share memory, or what was handed in is kept", count, size)
			}
		}
	}
	wrong := of(3, 40)
	wrong.Refs[2].Stamp = -1
	was := copied(wrong)
	refuse(t, "a wrong Ref", wrong)
	if !same(wrong, was) {
		t.Error("what was refused has changed")
	}
}
