package u128_test

import (
	"math/big"
	"slices"
	"testing"

	"exchequer/api"
	"exchequer/u128"
)

const most = 1<<64 - 1

func n(hi, lo uint64) api.U128 { return api.U128{Hi: hi, Lo: lo} }

// edges are numbers around those at which words, signs and the whole turn.
func edges() []api.U128 {
	words := []uint64{0, 1, 2, 9, 10, 11, 255, 256, 258, 1<<32 - 1, 1 << 32, 1<<63 - 1, 1 << 63, 1<<63 + 1, 0x0102030405060708, most - 1, most}
	var l []api.U128
	for _, hi := range words {
		for _, lo := range words {
			l = append(l, n(hi, lo))
		}
	}
	return l
}

// whole tells a number without any bound, as an oracle that shares no code with the package.
func whole(a api.U128) *big.Int {
	x := new(big.Int).SetUint64(a.Hi)
	return x.Lsh(x, 64).Or(x, new(big.Int).SetUint64(a.Lo))
}

// fits tells whether a number is at least nought and below 2^128.
func fits(x *big.Int) bool { return x.Sign() >= 0 && x.BitLen() <= 128 }

// agree holds what a sum answered against the oracle's.
func agree(t *testing.T, what string, got api.U128, gone bool, want *big.Int) {
	t.Helper()
	if !fits(want) {
		if got != (api.U128{}) || !gone {
			t.Errorf("%s: %v %v, want zero and true", what, got, gone)
		}
		return
	}
	if gone || whole(got).Cmp(want) != 0 {
		t.Errorf("%s: %v %v, want %v", what, got, gone, want)
	}
}

// P1.1: Of.
func TestOf(t *testing.T) {
	for _, x := range []uint64{0, 1, 10, 1 << 63, most} {
		if got := u128.Of(x); got != n(0, x) {
			t.Errorf("Of(%d): %v", x, got)
		}
	}
}

// P1.1: Cmp.
func TestCmp(t *testing.T) {
	for _, a := range edges() {
		for _, b := range edges() {
			if got, want := u128.Cmp(a, b), whole(a).Cmp(whole(b)); got != want {
				t.Errorf("Cmp(%v, %v): %d, want %d", a, b, got, want)
			}
		}
	}
}

// P1.1: Add and Sub, over all pairs of edges.
func TestAddSubEdges(t *testing.T) {
	for _, a := range edges() {
		for _, b := range edges() {
			sum, over := u128.Add(a, b)
			agree(t, "Add", sum, over, new(big.Int).Add(whole(a), whole(b)))
			rest, below := u128.Sub(a, b)
			agree(t, "Sub", rest, below, new(big.Int).Sub(whole(a), whole(b)))
		}
	}
}

// P1.1: the chapter's examples of Add and Sub, and their neighbours.
func TestAddSubExamples(t *testing.T) {
	for _, c := range []struct {
		name string
		f    func(a, b api.U128) (api.U128, bool)
		a, b api.U128
		want api.U128
		gone bool
	}{
		{"Add", u128.Add, n(0, most), n(0, 1), n(1, 0), false},
		{"Add", u128.Add, n(most, most), n(0, 1), n(0, 0), true},
		{"Add", u128.Add, n(most, most), n(0, 0), n(most, most), false},
		{"Add", u128.Add, n(most, most-1), n(0, 1), n(most, most), false},
		{"Add", u128.Add, n(1<<63, 0), n(1<<63, 0), n(0, 0), true},
		{"Add", u128.Add, n(most, most), n(most, most), n(0, 0), true},
		{"Add", u128.Add, n(most, 5), n(1, 7), n(0, 0), true},
		{"Sub", u128.Sub, n(1, 0), n(0, 1), n(0, most), false},
		{"Sub", u128.Sub, n(0, 1), n(0, 2), n(0, 0), true},
		{"Sub", u128.Sub, n(0, most), n(1, 0), n(0, 0), true},
		{"Sub", u128.Sub, n(1, 0), n(1, 1), n(0, 0), true},
		{"Sub", u128.Sub, n(most, most), n(most, most), n(0, 0), false},
		{"Sub", u128.Sub, n(most, most), n(0, 0), n(most, most), false},
	} {
		if got, gone := c.f(c.a, c.b); got != c.want || gone != c.gone {
			t.Errorf("%s(%v, %v): %v %v, want %v %v", c.name, c.a, c.b, got, gone, c.want, c.gone)
		}
	}
}

// P1.1: Sum.
func TestSum(t *testing.T) {
	for _, c := range []struct {
		l    []api.U128
		want api.U128
		over bool
	}{
		{nil, n(0, 0), false},
		{[]api.U128{}, n(0, 0), false},
		{[]api.U128{n(0, 0)}, n(0, 0), false},
		{[]api.U128{n(7, 9)}, n(7, 9), false},
		{[]api.U128{n(most, most)}, n(most, most), false},
		{[]api.U128{n(0, most), n(0, 1)}, n(1, 0), false},
		{[]api.U128{n(1, 2), n(3, 4), n(0, most)}, n(5, 5), false},
		{[]api.U128{n(most, most), n(0, 0), n(0, 0)}, n(most, most), false},
		{[]api.U128{n(most, most), n(0, 1)}, n(0, 0), true},
		{[]api.U128{n(0, 1), n(most, most), n(0, 5), n(most, 3)}, n(0, 0), true},
		{[]api.U128{n(1<<63, 0), n(1<<63-1, most), n(0, 0), n(0, 1), n(4, 4)}, n(0, 0), true},
	} {
		if got, over := u128.Sum(c.l); got != c.want || over != c.over {
			t.Errorf("Sum(%v): %v %v, want %v %v", c.l, got, over, c.want, c.over)
		}
	}
}

// P1.1: a sum of many, that meets 2^128 by its last one alone.
func TestSumOfMany(t *testing.T) {
	l := slices.Repeat([]api.U128{n(1<<52, 0)}, 1<<12)
	if got, over := u128.Sum(l); got != (api.U128{}) || !over {
		t.Error(got, over)
	}
	l[0] = n(1<<52-1, most)
	if got, over := u128.Sum(l); got != n(most, most) || over {
		t.Error(got, over)
	}
}

// P1.4: what is added and taken away again is what it was.
func TestAddThenSub(t *testing.T) {
	for _, a := range edges() {
		for _, b := range edges() {
			sum, over := u128.Add(a, b)
			if over {
				continue
			}
			if back, below := u128.Sub(sum, b); back != a || below {
				t.Errorf("%v and %v and back: %v %v", a, b, back, below)
			}
		}
	}
}

// P1.4: sums do not hang on their order, those that go over neither.
func TestOrderOfSums(t *testing.T) {
	lists := [][4]api.U128{
		{n(0, most), n(0, 1), n(1, most), n(0, 2)},
		{n(most, most), n(0, 1), n(0, 0), n(3, 3)},
		{n(1<<63, 0), n(1<<62, most), n(1<<62-1, 0), n(0, most)},
		{n(1<<63, 0), n(1<<62, most), n(1<<62-1, 1), n(0, most)},
	}
	for _, l := range lists {
		want, gone := u128.Sum(l[:])
		for i := range 256 {
			order := [4]int{i & 3, i >> 2 & 3, i >> 4 & 3, i >> 6 & 3}
			if !isOrder(order) {
				continue
			}
			turned := []api.U128{l[order[0]], l[order[1]], l[order[2]], l[order[3]]}
			if got, over := u128.Sum(turned); got != want || over != gone {
				t.Errorf("Sum(%v): %v %v, want %v %v", turned, got, over, want, gone)
			}
		}
	}
}

func isOrder(order [4]int) bool {
	slices.Sort(order[:])
	return order == [4]int{0, 1, 2, 3}
}

// P1.4: a sum of two does not hang on their order, and is as Sum's.
func TestAddEitherWay(t *testing.T) {
	for _, a := range edges() {
		for _, b := range edges() {
			ab, over := u128.Add(a, b)
			if ba, gone := u128.Add(b, a); ba != ab || gone != over {
				t.Errorf("Add(%v, %v): %v %v, the other way %v %v", a, b, ab, over, ba, gone)
			}
			if s, gone := u128.Sum([]api.U128{a, b}); s != ab || gone != over {
				t.Errorf("Add(%v, %v): %v %v, Sum %v %v", a, b, ab, over, s, gone)
			}
		}
	}
}

// Rule 4: a list that is handed in is not changed, its spare room neither.
func TestSumLeavesList(t *testing.T) {
	room := []api.U128{n(1, 2), n(3, 4), n(5, 6), n(7, 8)}
	was := slices.Clone(room)
	if got, over := u128.Sum(room[:2]); got != n(4, 6) || over {
		t.Error(got, over)
	}
	if !slices.Equal(room, was) {
		t.Error(room)
	}
}
