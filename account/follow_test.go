package account_test

import (
	"math/big"
	"math/rand"
	"testing"

	"exchequer/account"
	"exchequer/api"
)

// draw draws a number of any length of bits.
func draw(r *rand.Rand) api.U128 {
	switch bits := r.Intn(129); {
	case bits > 64:
		return n(r.Uint64()>>(128-bits), r.Uint64())
	default:
		return n(0, r.Uint64()>>(64-bits))
	}
}

// rarely draws a number that is most often nought.
func rarely(r *rand.Rand) api.U128 {
	if r.Intn(8) > 0 {
		return api.U128{}
	}
	return draw(r)
}

// drawn draws an account, each field of which may be such that it may not be made.
func drawn(r *rand.Rand) api.Account {
	ids := []api.U128{n(0, 0), n(most, most), n(0, 1), draw(r), draw(r), draw(r), draw(r), draw(r)}
	return api.Account{
		ID: ids[r.Intn(len(ids))], DebitsPending: rarely(r), DebitsPosted: rarely(r), CreditsPending: rarely(r), CreditsPosted: rarely(r),
		User128: draw(r), User64: draw(r).Lo, User32: r.Uint32(), Reserved: uint32(rarely(r).Lo), Ledger: uint32(draw(r).Lo),
		Code: uint16(r.Intn(8)), Flags: uint16(r.Intn(10)), Time: rarely(r).Lo,
	}
}

// code tells the code of an account by the chapter's table.
func code(a api.Account) int {
	switch {
	case a.Time != 0:
		return 3
	case a.Reserved != 0:
		return 4
	case a.Flags > 7:
		return 5
	case a.ID.Hi|a.ID.Lo == 0:
		return 6
	case a.ID.Hi&a.ID.Lo == most:
		return 7
	case a.Flags > 5:
		return 8
	}
	for i, x := range []api.U128{a.DebitsPending, a.DebitsPosted, a.CreditsPending, a.CreditsPosted} {
		if x.Hi|x.Lo != 0 {
			return 9 + i
		}
	}
	switch {
	case a.Ledger == 0:
		return 13
	case a.Code == 0:
		return 14
	}
	return 0
}

// lets holds what follows of an account that Check lets by.
func lets(t *testing.T, a api.Account, time uint64) {
	t.Helper()
	if a.DebitsPending != n(0, 0) || a.DebitsPosted != n(0, 0) || a.CreditsPending != n(0, 0) || a.CreditsPosted != n(0, 0) {
		t.Errorf("%+v has a balance", a)
	}
	if a.ID == n(0, 0) || a.ID == n(most, most) || a.Ledger == 0 || a.Code == 0 {
		t.Errorf("%+v lacks an ID, a ledger or a code", a)
	}
	made := account.Made(a, time)
	if got := account.Other(a, made); got != 21 {
		t.Errorf("Other(%+v, %+v): %d", a, made, got)
	}
	if got := account.Other(made, a); got != 21 {
		t.Errorf("Other(%+v, %+v): %d", made, a, got)
	}
	if account.Debited(made, n(0, 0)) || account.Credited(made, n(0, 0)) {
		t.Errorf("%+v is beyond its limit as it is made", made)
	}
}

// P17.3: what Check lets by has no balance, and an ID, a ledger and a code; what is made of it is there.
func TestLetBy(t *testing.T) {
	r := rand.New(rand.NewSource(17))
	let := 0
	for range 200000 {
		a := drawn(r)
		want := code(a)
		checks(t, a, want)
		if want == 0 {
			let++
			lets(t, a, r.Uint64())
		}
	}
	for _, a := range good() {
		lets(t, a, 1)
		lets(t, a, most)
	}
	if let < 10000 {
		t.Errorf("only %d accounts were let by", let)
	}
}

// side is one side of an account, as numbers, and what tells whether its limit is exceeded.
type side struct {
	name                  string
	flag                  uint16
	pending, posted, most api.U128
	exceeds               func(api.Account, api.U128) bool
}

func sidesOf(a api.Account) []side {
	return []side{
		{"Debited", 2, a.DebitsPending, a.DebitsPosted, a.CreditsPosted, account.Debited},
		{"Credited", 4, a.CreditsPending, a.CreditsPosted, a.DebitsPosted, account.Credited},
	}
}

// P17.4: an amount that exceeds a limit is one that is more than what is left of it, so that each greater one does, too; without the flag none does.
func TestLeft(t *testing.T) {
	r := rand.New(rand.NewSource(4))
	exceeded, held := 0, 0
	for range 50000 {
		a := drawn(r)
		a.DebitsPending, a.DebitsPosted, a.CreditsPending, a.CreditsPosted = draw(r), draw(r), draw(r), draw(r)
		for _, s := range sidesOf(a) {
			left := whole(s.most)
			left.Sub(left, whole(s.pending)).Sub(left, whole(s.posted))
			amounts := []api.U128{n(0, 0), n(0, 1), n(most, most), draw(r), draw(r), draw(r), draw(r)}
			for _, by := range []int64{-1, 0, 1} {
				if x, ok := number(new(big.Int).Add(left, big.NewInt(by))); ok {
					amounts = append(amounts, x)
				}
			}
			for _, amount := range amounts {
				want := a.Flags&s.flag != 0 && whole(amount).Cmp(left) > 0
				if got := s.exceeds(a, amount); got != want {
					t.Errorf("%s(%+v, %v): %v", s.name, a, amount, got)
				}
				if want {
					exceeded++
				} else if a.Flags&s.flag != 0 {
					held++
				}
			}
		}
	}
	if exceeded < 1000 || held < 1000 {
		t.Errorf("limits were exceeded %d times, held %d times", exceeded, held)
	}
}

// P17.4: of two amounts the greater one exceeds a limit, if the other one does.
func TestGreater(t *testing.T) {
	r := rand.New(rand.NewSource(44))
	for range 100000 {
		a := drawn(r)
		a.DebitsPending, a.DebitsPosted, a.CreditsPending, a.CreditsPosted = draw(r), draw(r), draw(r), draw(r)
		less, more := draw(r), draw(r)
		if whole(less).Cmp(whole(more)) > 0 {
			less, more = more, less
		}
		for _, s := range sidesOf(a) {
			if s.exceeds(a, less) && !s.exceeds(a, more) {
				t.Errorf("%s(%+v): %v exceeds, %v does not", s.name, a, less, more)
			}
			a.Flags &^= s.flag
			if s.exceeds(a, more) || s.exceeds(a, n(most, most)) {
				t.Errorf("%s(%+v, %v): there is no limit", s.name, a, more)
			}
		}
	}
}

// P17.1, P17.2: accounts of any numbers, held against the chapter's words.
func FuzzAccount(f *testing.F) {
	f.Add(uint64(0), uint64(1), uint64(0), uint64(0), uint64(0), uint64(0), uint64(0), uint64(0), uint64(0), uint64(0), uint64(0), uint64(5), uint32(0), uint32(1), uint16(1), uint16(0), uint64(0))
	f.Add(uint64(most), uint64(most), uint64(1), uint64(most), uint64(most), uint64(1), uint64(0), uint64(1), uint64(most), uint64(most), uint64(1), uint64(0), uint32(1), uint32(0), uint16(0), uint16(6), uint64(1))
	f.Fuzz(func(t *testing.T, idHi, idLo, ph, pl, dh, dl, qh, ql, ch, cl, ah, al uint64, reserved, ledger uint32, code16, flags uint16, time uint64) {
		a := api.Account{
			ID: n(idHi, idLo), DebitsPending: n(ph, pl), DebitsPosted: n(dh, dl), CreditsPending: n(qh, ql), CreditsPosted: n(ch, cl),
			Reserved: reserved, Ledger: ledger, Code: code16, Flags: flags, Time: time,
		}
		want := code(a)
		checks(t, a, want)
		if want == 0 {
			lets(t, a, al)
		}
		limits(t, a, n(ah, al))
		limits(t, a, n(0, al))
	})
}
