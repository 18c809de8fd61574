package account_test

import (
	"slices"
	"testing"

	"exchequer/account"
	"exchequer/api"
)

const most = 1<<64 - 1

func n(hi, lo uint64) api.U128 { return api.U128{Hi: hi, Lo: lo} }

// plain is the account of the chapter's examples.
func plain() api.Account { return api.Account{ID: n(0, 1), Ledger: 1, Code: 1} }

// with is an account that was changed.
func with(a api.Account, do ...func(*api.Account)) api.Account {
	for _, d := range do {
		d(&a)
	}
	return a
}

// good are accounts that may be made: each field that may be set, by itself and with all others, at its edges.
func good() []api.Account {
	l := []api.Account{plain()}
	for _, id := range []api.U128{n(0, 2), n(0, most), n(1, 0), n(1<<63, 0), n(most, 0), n(most, most-1), n(most-1, most)} {
		l = append(l, with(plain(), func(a *api.Account) { a.ID = id }))
	}
	for _, user := range []api.U128{n(0, 1), n(0, most), n(1, 0), n(most, most)} {
		l = append(l, with(plain(), func(a *api.Account) { a.User128 = user }))
	}
	for _, x := range []uint64{1, 2, 1 << 31, 1 << 63, most} {
		l = append(l, with(plain(), func(a *api.Account) { a.User64 = x }))
	}
	for _, x := range []uint32{2, 1 << 16, 1 << 31, 1<<32 - 1} {
		l = append(l, with(plain(), func(a *api.Account) { a.User32 = x }))
		l = append(l, with(plain(), func(a *api.Account) { a.Ledger = x }))
	}
	for _, x := range []uint16{2, 1 << 8, 1 << 15, 1<<16 - 1} {
		l = append(l, with(plain(), func(a *api.Account) { a.Code = x }))
	}
	for _, flags := range []uint16{1, 2, 3, 4, 5} {
		l = append(l, with(plain(), func(a *api.Account) { a.Flags = flags }))
		l = append(l, api.Account{ID: n(3, 4), User128: n(5, 6), User64: 7, User32: 8, Ledger: 9, Code: 10, Flags: flags})
	}
	return l
}

// fault is a code, with the ways in which an account comes to have it, none of which undoes another code's.
type fault struct {
	code int
	ways []func(*api.Account)
}

// faults are all codes of an account by itself, in the order in which they are told.
func faults() []fault {
	l := []fault{{code: 3}, {code: 4}, {code: 5}, {code: 6}, {code: 7}, {code: 8}, {code: 9}, {code: 10}, {code: 11}, {code: 12}, {code: 13}, {code: 14}}
	for bit := range 64 {
		l[0].ways = append(l[0].ways, func(a *api.Account) { a.Time = 1 << bit })
	}
	for bit := range 32 {
		l[1].ways = append(l[1].ways, func(a *api.Account) { a.Reserved = 1 << bit })
	}
	for bit := 3; bit < 16; bit++ {
		l[2].ways = append(l[2].ways, func(a *api.Account) { a.Flags |= 1 << bit })
	}
	l[2].ways = append(l[2].ways, func(a *api.Account) { a.Flags |= 1<<16 - 8 })
	l[3].ways = append(l[3].ways, func(a *api.Account) { a.ID = n(0, 0) })
	l[4].ways = append(l[4].ways, func(a *api.Account) { a.ID = n(most, most) })
	l[5].ways = append(l[5].ways, func(a *api.Account) { a.Flags |= 6 }, func(a *api.Account) { a.Flags |= 7 })
	for _, x := range []api.U128{n(0, 1), n(1, 0), n(0, 1<<63), n(1<<63, 0), n(7, 9), n(most, most)} {
		l[6].ways = append(l[6].ways, func(a *api.Account) { a.DebitsPending = x })
		l[7].ways = append(l[7].ways, func(a *api.Account) { a.DebitsPosted = x })
		l[8].ways = append(l[8].ways, func(a *api.Account) { a.CreditsPending = x })
		l[9].ways = append(l[9].ways, func(a *api.Account) { a.CreditsPosted = x })
	}
	l[10].ways = append(l[10].ways, func(a *api.Account) { a.Ledger = 0 })
	l[11].ways = append(l[11].ways, func(a *api.Account) { a.Code = 0 })
	return l
}

// checks holds Check of an account against a code.
func checks(t *testing.T, a api.Account, want int) {
	t.Helper()
	if got := account.Check(a); got != want {
		t.Errorf("Check(%+v): %d, want %d", a, got, want)
	}
}

// P17.1: accounts that may be made.
func TestCheckGood(t *testing.T) {
	for _, a := range good() {
		checks(t, a, 0)
	}
}

// P17.1: each fault by itself, in all its ways, of each account that may be made.
func TestCheckEachFault(t *testing.T) {
	for _, a := range good() {
		for _, f := range faults() {
			for _, way := range f.ways {
				checks(t, with(a, way), f.code)
			}
		}
	}
}

// P17.1: of each pair of faults, in all their ways, the first code is told.
func TestCheckPairs(t *testing.T) {
	l := faults()
	for i, f := range l {
		for _, g := range l[i+1:] {
			if f.code == api.AccountZero && g.code == api.AccountMax {
				continue // no ID is both
			}
			for _, one := range f.ways {
				for _, other := range g.ways {
					checks(t, with(plain(), one, other), f.code)
					checks(t, with(plain(), other, one), f.code)
				}
			}
		}
	}
}

// P17.1: of any faults together the first code is told.
func TestCheckSubsets(t *testing.T) {
	l := faults()
	for set := range 1 << len(l) {
		if set>>3&3 == 3 {
			continue // no ID is zero and the greatest one
		}
		a, want := plain(), 0
		for i, f := range slices.Backward(l) {
			if set>>i&1 == 1 {
				a, want = with(a, f.ways[set%len(f.ways)]), f.code
			}
		}
		checks(t, a, want)
	}
}

// P17.1: each value of Flags, alone, and with each later fault and each earlier one beside it.
func TestCheckFlags(t *testing.T) {
	for flags := range 1 << 16 {
		want := 0
		if flags >= 8 {
			want = 5
		} else if flags >= 6 {
			want = 8
		}
		a := with(plain(), func(a *api.Account) { a.Flags = uint16(flags) })
		checks(t, a, want)
		zero := with(a, func(a *api.Account) { a.ID = n(0, 0) })
		late := with(a, func(a *api.Account) { a.DebitsPending = n(0, 1) })
		early := with(a, func(a *api.Account) { a.Reserved = 1 })
		checks(t, early, 4)
		if want == 0 {
			checks(t, late, 9)
		} else {
			checks(t, late, want)
		}
		if want == 5 {
			checks(t, zero, 5)
		} else {
			checks(t, zero, 6)
		}
	}
}

// P17.1: IDs at the edges, with nothing else, and with a fault behind.
func TestCheckIDs(t *testing.T) {
	for _, c := range []struct {
		id   api.U128
		want int
	}{
		{n(0, 0), 6}, {n(0, 1), 0}, {n(0, 2), 0}, {n(0, most), 0}, {n(1, 0), 0},
		{n(most, 0), 0}, {n(most, most-1), 0}, {n(most-1, most), 0}, {n(most, most), 7},
	} {
		a := with(plain(), func(a *api.Account) { a.ID = c.id })
		checks(t, a, c.want)
		want := c.want
		if want == 0 {
			want = 8
		}
		checks(t, with(a, func(a *api.Account) { a.Flags = 6 }), want)
	}
	checks(t, api.Account{}, 6)
	checks(t, api.Account{ID: n(0, 1)}, 13)
	checks(t, api.Account{ID: n(0, 1), Ledger: 1}, 14)
	checks(t, api.Account{ID: n(0, 1), Code: 1}, 13)
}

// P17.1: what a call of Check is told is as it was; the same call answers the same again.
func TestCheckLeavesAccount(t *testing.T) {
	for _, a := range good() {
		was := a
		checks(t, a, 0)
		account.Made(a, 5)
		account.Other(a, plain())
		account.Debited(a, n(1, 2))
		account.Credited(a, n(1, 2))
		checks(t, a, 0)
		if a != was {
			t.Errorf("%+v, was %+v", a, was)
		}
	}
}

// P17.1: the chapter's examples of Check.
func TestCheckExamples(t *testing.T) {
	a := plain()
	checks(t, a, 0)
	checks(t, with(a, func(a *api.Account) { a.Time = 1 }), 3)
	checks(t, with(a, func(a *api.Account) { a.Flags = 8 }), 5)
	checks(t, with(a, func(a *api.Account) { a.ID = n(0, 0) }), 6)
	checks(t, with(a, func(a *api.Account) { a.Flags = 6 }), 8)
	checks(t, with(a, func(a *api.Account) { a.Ledger, a.DebitsPosted = 0, n(0, 1) }), 10)
	checks(t, with(a, func(a *api.Account) { a.Ledger, a.Code = 0, 0 }), 13)
}
