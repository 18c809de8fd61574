package account_test

import (
	"slices"
	"testing"

	"exchequer/account"
	"exchequer/api"
)

// differences are the codes of an account whose ID another one has, with the ways in which a field comes to differ from what it was.
func differences() []fault {
	l := []fault{{code: 15}, {code: 16}, {code: 17}, {code: 18}, {code: 19}, {code: 20}}
	for bit := range 64 {
		l[1].ways = append(l[1].ways, func(a *api.Account) { a.User128.Lo ^= 1 << bit }, func(a *api.Account) { a.User128.Hi ^= 1 << bit })
		l[2].ways = append(l[2].ways, func(a *api.Account) { a.User64 ^= 1 << bit })
	}
	l[1].ways = append(l[1].ways, func(a *api.Account) { a.User128 = n(^a.User128.Hi, ^a.User128.Lo) })
	for bit := range 32 {
		l[3].ways = append(l[3].ways, func(a *api.Account) { a.User32 ^= 1 << bit })
		l[4].ways = append(l[4].ways, func(a *api.Account) { a.Ledger ^= 1 << bit })
	}
	for bit := range 16 {
		l[0].ways = append(l[0].ways, func(a *api.Account) { a.Flags ^= 1 << bit })
		l[5].ways = append(l[5].ways, func(a *api.Account) { a.Code ^= 1 << bit })
	}
	return l
}

// others are changes of the fields that make no difference.
func others() []func(*api.Account) {
	return []func(*api.Account){
		func(a *api.Account) {},
		func(a *api.Account) { a.ID = n(most, 5) },
		func(a *api.Account) { a.ID = n(0, 0) },
		func(a *api.Account) { a.DebitsPending = n(0, 9) },
		func(a *api.Account) { a.DebitsPosted = n(9, 0) },
		func(a *api.Account) { a.CreditsPending = n(0, 1) },
		func(a *api.Account) { a.CreditsPosted = n(most, most) },
		func(a *api.Account) { a.Reserved = 1 << 31 },
		func(a *api.Account) { a.Time = most },
	}
}

// differ holds Other of two accounts, either way round, against a code.
func differ(t *testing.T, a, have api.Account, want int) {
	t.Helper()
	if got := account.Other(a, have); got != want {
		t.Errorf("Other(%+v, %+v): %d, want %d", a, have, got, want)
	}
	if got := account.Other(have, a); got != want {
		t.Errorf("Other(%+v, %+v): %d, want %d", have, a, got, want)
	}
}

// P17.1: an account is there, if no field that counts differs, whatever the other fields have.
func TestOtherExists(t *testing.T) {
	for _, a := range good() {
		for _, one := range others() {
			for _, other := range others() {
				differ(t, with(a, one), with(a, other), 21)
			}
		}
	}
	differ(t, api.Account{}, api.Account{}, 21)
}

// P17.1: each field that differs, in each of its bits, with each field beside it that makes no difference.
func TestOtherEachField(t *testing.T) {
	for _, a := range good() {
		for _, d := range differences() {
			for _, way := range d.ways {
				for _, beside := range others() {
					differ(t, with(a, way, beside), a, d.code)
				}
			}
		}
	}
}

// P17.1: of each pair of fields that differ, in all their bits, the first code is told.
func TestOtherPairs(t *testing.T) {
	l := differences()
	for i, d := range l {
		for _, e := range l[i+1:] {
			for _, one := range d.ways {
				for _, other := range e.ways {
					differ(t, with(plain(), one, other), plain(), d.code)
					differ(t, with(plain(), one), with(plain(), other), d.code)
				}
			}
		}
	}
}

// P17.1: of any fields that differ together the first code is told.
func TestOtherSubsets(t *testing.T) {
	l := differences()
	for _, have := range good() {
		for set := range 1 << len(l) {
			a, want := have, 21
			for i, d := range slices.Backward(l) {
				if set>>i&1 == 1 {
					a, want = with(a, d.ways[set%len(d.ways)]), d.code
				}
			}
			differ(t, a, have, want)
		}
	}
}

// P17.1: Other looks at what differs, not at what may be: an account that Check refuses is told as any other.
func TestOtherOfBad(t *testing.T) {
	for _, f := range faults() {
		for _, way := range f.ways {
			bad := with(plain(), way)
			differ(t, bad, bad, 21)
			differ(t, bad, with(bad, func(a *api.Account) { a.Code ^= 1 }), 20)
		}
	}
}

// P17.1: the chapter's examples of Other.
func TestOtherExamples(t *testing.T) {
	a := plain()
	differ(t, a, a, 21)
	differ(t, a, with(a, func(a *api.Account) { a.Code = 2 }), 20)
	differ(t, a, with(a, func(a *api.Account) { a.Flags, a.Code = 2, 2 }), 15)
}

// P17.1: Made changes the moment and nothing else, whatever the account has.
func TestMade(t *testing.T) {
	l := append(good(), api.Account{})
	for _, f := range append(faults(), differences()...) {
		for _, way := range f.ways {
			l = append(l, with(plain(), way))
		}
	}
	for _, a := range l {
		for _, time := range []uint64{0, 1, 2, 1 << 32, 1 << 63, most - 1, most} {
			was, want := a, a
			want.Time = time
			if got := account.Made(a, time); got != want {
				t.Errorf("Made(%+v, %d): %+v", a, time, got)
			}
			if a != was {
				t.Errorf("%+v, was %+v", a, was)
			}
		}
	}
}
