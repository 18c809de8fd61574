package u128_test

import (
	"math/big"
	"strings"
	"testing"

	"exchequer/api"
	"exchequer/u128"
)

const (
	topText  = "340282366920938463463374607431768211455" // 2^128 - 1
	overText = "340282366920938463463374607431768211456" // 2^128
)

// P1.3: Text, held against an oracle; P1.4 (P2): texts lead back.
func TestTextLeadsBack(t *testing.T) {
	for _, a := range append(edges(), powersOfTen()...) {
		s := u128.Text(a)
		if want := whole(a).String(); s != want {
			t.Errorf("Text(%v): %s, want %s", a, s, want)
		}
		if back, e := u128.Parse(s); back != a || e != api.OK {
			t.Errorf("Parse(%s): %v %v, want %v", s, back, e, a)
		}
	}
}

// powersOfTen are the numbers at which the count of digits grows, each with its neighbours.
func powersOfTen() []api.U128 {
	var l []api.U128
	ten := big.NewInt(10)
	for x := big.NewInt(10); fits(x); x = new(big.Int).Mul(x, ten) {
		for d := int64(-1); d <= 1; d++ {
			y := new(big.Int).Add(x, big.NewInt(d))
			hi := new(big.Int).Rsh(y, 64)
			lo := new(big.Int).And(y, new(big.Int).SetUint64(most))
			l = append(l, n(hi.Uint64(), lo.Uint64()))
		}
	}
	return l
}

// P1.3: the chapter's examples, and others that are well formed.
func TestTextExamples(t *testing.T) {
	for _, c := range []struct {
		s string
		a api.U128
	}{
		{"0", n(0, 0)},
		{"1", n(0, 1)},
		{"9", n(0, 9)},
		{"10", n(0, 10)},
		{"100", n(0, 100)},
		{"18446744073709551615", n(0, most)},
		{"18446744073709551616", n(1, 0)},
		{"340282366920938463463374607431768211454", n(most, most-1)},
		{topText, n(most, most)},
	} {
		if got := u128.Text(c.a); got != c.s {
			t.Errorf("Text(%v): %s, want %s", c.a, got, c.s)
		}
		if got, e := u128.Parse(c.s); got != c.a || e != api.OK {
			t.Errorf("Parse(%s): %v %v, want %v", c.s, got, e, c.a)
		}
	}
}

// P1.3: what Parse refuses, and that the first error that applies is told.
func TestParseRefuses(t *testing.T) {
	for _, c := range []struct {
		s    string
		want api.Errno
	}{
		{"", api.ErrBytes},
		{"00", api.ErrBytes},
		{"01", api.ErrBytes},
		{"0" + topText[1:], api.ErrBytes},
		{"+1", api.ErrBytes},
		{"-1", api.ErrBytes},
		{" 1", api.ErrBytes},
		{"1 ", api.ErrBytes},
		{"1\n", api.ErrBytes},
		{"1_000", api.ErrBytes},
		{"1.0", api.ErrBytes},
		{"0x1", api.ErrBytes},
		{"1e3", api.ErrBytes},
		{"a", api.ErrBytes},
		{"1\x00", api.ErrBytes},
		{"\xff", api.ErrBytes},
		{"\u0661", api.ErrBytes}, // a digit, but none of rule 6
		{strings.Repeat("9", 38) + "x", api.ErrBytes},
		{"x" + strings.Repeat("9", 38), api.ErrBytes},
		{overText, api.ErrOver},
		{"340282366920938463463374607431768211460", api.ErrOver},
		{"340282366920938463463374607431768211500", api.ErrOver},
		{"340282366920938463481821351505477763072", api.ErrOver}, // 2^128 + 2^64
		{"400000000000000000000000000000000000000", api.ErrOver},
		{strings.Repeat("9", 39), api.ErrOver},
		{"1" + strings.Repeat("0", 39), api.ErrLong},
		{strings.Repeat("0", 40), api.ErrLong},
		{topText + "x", api.ErrLong},
		{"0" + topText, api.ErrLong},
		{strings.Repeat("x", 40), api.ErrLong},
		{strings.Repeat("9", 1<<16), api.ErrLong},
	} {
		if a, e := u128.Parse(c.s); a != (api.U128{}) || e != c.want {
			t.Errorf("Parse(%q): %v %v, want %v", c.s, a, e, c.want)
		}
	}
}

// P1.3: of all single bytes the ten digits alone are numbers, at the front, and behind another digit.
func TestParseBytes(t *testing.T) {
	for x := range 256 {
		digit := x >= '0' && x <= '9'
		alone, e := u128.Parse(string([]byte{byte(x)}))
		behind, be := u128.Parse(string([]byte{'4', byte(x)}))
		switch {
		case digit && (alone != n(0, uint64(x-'0')) || e != api.OK || behind != n(0, uint64(x-'0'+40)) || be != api.OK):
			t.Errorf("digit %d: %v %v, %v %v", x, alone, e, behind, be)
		case !digit && (e != api.ErrBytes || be != api.ErrBytes):
			t.Errorf("byte %d: %v, %v", x, e, be)
		}
	}
}

// P1.3: 39 digits on either side of 2^128, one by one.
func TestParseAroundTop(t *testing.T) {
	top := whole(n(most, most))
	for d := int64(-300); d <= 300; d++ {
		x := new(big.Int).Add(top, big.NewInt(d))
		a, e := u128.Parse(x.String())
		if d > 0 && (a != (api.U128{}) || e != api.ErrOver) {
			t.Errorf("Parse(%v): %v %v", x, a, e)
		}
		if d <= 0 && (a != n(most, most-uint64(-d)) || e != api.OK) {
			t.Errorf("Parse(%v): %v %v", x, a, e)
		}
	}
}

// P1.4 (P1): no text makes Parse panic, and what it takes leads back to that text.
func FuzzParse(f *testing.F) {
	for _, s := range []string{"", "0", "01", "10", topText, overText, topText + "0", "1x", "\xff"} {
		f.Add(s)
	}
	f.Fuzz(func(t *testing.T, s string) {
		a, e := u128.Parse(s)
		if e == api.OK && u128.Text(a) != s {
			t.Errorf("%q: %v, whose text is %q", s, a, u128.Text(a))
		}
		if e != api.OK && a != (api.U128{}) {
			t.Errorf("%q: %v beside %v", s, a, e)
		}
	})
}
