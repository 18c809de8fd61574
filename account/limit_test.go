package account_test

import (
	"math/big"
	"testing"

	"exchequer/account"
	"exchequer/api"
)

// whole tells a number without any bound.
func whole(a api.U128) *big.Int {
	x := new(big.Int).SetUint64(a.Hi)
	return x.Lsh(x, 64).Or(x, new(big.Int).SetUint64(a.Lo))
}

// number is a number of 128 bits, if it is one.
func number(x *big.Int) (api.U128, bool) {
	if x.Sign() < 0 || x.BitLen() > 128 {
		return api.U128{}, false
	}
	var b [16]byte
	x.FillBytes(b[:])
	var a api.U128
	for _, c := range b {
		a = n(a.Hi<<8|a.Lo>>56, a.Lo<<8|uint64(c))
	}
	return a, true
}

// beyond tells, by the chapter's words, whether what is on a side, and an amount, are more than what is posted on the other one.
func beyond(pending, posted, amount, limit api.U128) bool {
	x := whole(pending)
	x.Add(x, whole(posted)).Add(x, whole(amount))
	return x.Cmp(whole(limit)) > 0
}

// limits holds Debited and Credited of an account against the chapter's words.
func limits(t *testing.T, a api.Account, amount api.U128) {
	t.Helper()
	was := a
	if got, want := account.Debited(a, amount), a.Flags>>1&1 == 1 && beyond(a.DebitsPending, a.DebitsPosted, amount, a.CreditsPosted); got != want {
		t.Errorf("Debited(%+v, %v): %v", a, amount, got)
	}
	if got, want := account.Credited(a, amount), a.Flags>>2&1 == 1 && beyond(a.CreditsPending, a.CreditsPosted, amount, a.DebitsPosted); got != want {
		t.Errorf("Credited(%+v, %v): %v", a, amount, got)
	}
	if a != was {
		t.Errorf("%+v, was %+v", a, was)
	}
}

// sides holds the limits of an account with the four balances, with all three known flags, and with unknown ones.
func sides(t *testing.T, l [4]api.U128, amount api.U128) {
	t.Helper()
	for _, flags := range []uint16{0, 1, 2, 3, 4, 5, 6, 7, 8, 10, 12, 1<<16 - 7, 1<<16 - 5, 1<<16 - 3, 1<<16 - 1} {
		a := plain()
		a.Flags, a.DebitsPending, a.DebitsPosted, a.CreditsPending, a.CreditsPosted = flags, l[0], l[1], l[2], l[3]
		limits(t, a, amount)
	}
}

// edges are numbers at which words and the whole turn.
func edges() []api.U128 {
	return []api.U128{n(0, 0), n(0, 1), n(0, 5), n(0, 1<<63), n(0, most-1), n(0, most), n(1, 0), n(1, 1), n(1<<63-1, most), n(1<<63, 0), n(most, 0), n(most, most-1), n(most, most)}
}

// P17.2: all edges as debits, credits and amounts.
func TestLimitsEdges(t *testing.T) {
	for _, pending := range edges() {
		for _, posted := range edges() {
			for _, amount := range edges() {
				for _, limit := range edges() {
					a := plain()
					a.Flags, a.DebitsPending, a.DebitsPosted, a.CreditsPending, a.CreditsPosted = 2, pending, posted, amount, limit
					limits(t, a, amount)
					a.Flags, a.CreditsPending, a.CreditsPosted, a.DebitsPending, a.DebitsPosted = 4, pending, posted, amount, limit
					limits(t, a, amount)
				}
			}
		}
	}
}

// P17.2: just as many as the limit, one more, one fewer, wherever the sum is a number of 128 bits; and a limit of its lowest bits, where it goes over.
func TestLimitsAround(t *testing.T) {
	turn := new(big.Int).Lsh(big.NewInt(1), 128)
	for _, pending := range edges() {
		for _, posted := range edges() {
			for _, amount := range edges() {
				sum := whole(pending)
				sum.Add(sum, whole(posted)).Add(sum, whole(amount))
				for _, by := range []int64{-1, 0, 1} {
					at := new(big.Int).Add(sum, big.NewInt(by))
					for range 3 {
						if limit, ok := number(at); ok {
							sides(t, [4]api.U128{pending, posted, n(0, 0), limit}, amount)
							sides(t, [4]api.U128{n(0, 3), limit, pending, posted}, amount)
						}
						at.Sub(at, turn)
					}
				}
			}
		}
	}
}

// P17.2: each value of Flags: the one flag counts, whatever is beside it.
func TestLimitsFlags(t *testing.T) {
	for flags := range 1 << 16 {
		a := plain()
		a.Flags, a.DebitsPosted, a.CreditsPosted = uint16(flags), n(0, 7), n(0, 7)
		if account.Debited(a, n(0, 0)) || account.Credited(a, n(0, 0)) {
			t.Errorf("flags %d: nought goes beyond", flags)
		}
		if got, want := account.Debited(a, n(0, 1)), flags&2 != 0; got != want {
			t.Errorf("flags %d: Debited %v", flags, got)
		}
		if got, want := account.Credited(a, n(0, 1)), flags&4 != 0; got != want {
			t.Errorf("flags %d: Credited %v", flags, got)
		}
	}
}

// P17.2: nothing but the balances and the flags counts: neither the other fields, nor what is pending on the other side.
func TestLimitsOtherFields(t *testing.T) {
	a := plain()
	a.Flags, a.DebitsPending, a.DebitsPosted, a.CreditsPosted = 2, n(0, 2), n(0, 3), n(0, 9)
	c := plain()
	c.Flags, c.CreditsPending, c.CreditsPosted, c.DebitsPosted = 4, n(0, 2), n(0, 3), n(0, 9)
	for _, do := range []func(*api.Account){
		func(a *api.Account) {},
		func(a *api.Account) { a.ID = n(most, most) },
		func(a *api.Account) { a.User128, a.User64, a.User32 = n(most, most), most, 1<<32-1 },
		func(a *api.Account) { a.Reserved, a.Ledger, a.Code, a.Time = 1, 0, 0, most },
	} {
		a, c := with(a, do), with(c, do)
		if account.Debited(a, n(0, 4)) || !account.Debited(a, n(0, 5)) || account.Credited(c, n(0, 4)) || !account.Credited(c, n(0, 5)) {
			t.Errorf("%+v, %+v", a, c)
		}
		a.CreditsPending, c.DebitsPending = n(most, most), n(most, most)
		if !account.Debited(a, n(0, 5)) || !account.Credited(c, n(0, 5)) || account.Debited(a, n(0, 4)) || account.Credited(c, n(0, 4)) {
			t.Errorf("%+v, %+v: what is pending on the other side counts", a, c)
		}
	}
}

// P17.2: the chapter's examples, and what lies beside them.
func TestLimitsExamples(t *testing.T) {
	five := with(plain(), func(a *api.Account) { a.Flags, a.CreditsPosted = 2, n(0, 5) })
	top := with(plain(), func(a *api.Account) { a.Flags, a.DebitsPosted, a.CreditsPosted = 2, n(most, most), n(most, most) })
	twice := with(top, func(a *api.Account) { a.DebitsPending = n(most, most) })
	for i, c := range []struct {
		a      api.Account
		amount api.U128
		want   bool
	}{
		{five, n(0, 5), false}, {five, n(0, 6), true}, {plain(), n(0, 6), false}, {top, n(0, 1), true},
		{five, n(0, 4), false}, {five, n(0, 0), false}, {five, n(1, 0), true}, {five, n(most, most), true},
		{top, n(0, 0), false}, {top, n(most, most), true}, {plain(), n(most, most), false},
		{twice, n(0, 0), true}, {twice, n(0, 1), true}, {twice, n(0, 2), true}, {twice, n(0, 3), true}, {twice, n(most, most), true},
	} {
		if got := account.Debited(c.a, c.amount); got != c.want {
			t.Errorf("%d: Debited(%+v, %v): %v", i, c.a, c.amount, got)
		}
		turned := c.a
		turned.Flags = c.a.Flags << 1
		turned.CreditsPending, turned.CreditsPosted, turned.DebitsPending, turned.DebitsPosted = c.a.DebitsPending, c.a.DebitsPosted, c.a.CreditsPending, c.a.CreditsPosted
		if got := account.Credited(turned, c.amount); got != c.want {
			t.Errorf("%d: Credited(%+v, %v): %v", i, turned, c.amount, got)
		}
		if account.Credited(c.a, c.amount) || account.Debited(turned, c.amount) {
			t.Errorf("%d: a side without a limit goes beyond it", i)
		}
	}
}
