package table_test

import (
	"fmt"
	"math/rand"
	"slices"
	"strings"
	"testing"

	"exchequer/api"
	"exchequer/table"
)

// told wants a table to tell what was built, and nothing else: each pair by its key, no other one, all, and those between any two of some keys.
func told(t testing.TB, what string, s *scene, r api.Run, l []item, keys []string) {
	t.Helper()
	there := map[string]item{}
	for _, p := range l {
		there[p.key] = p
		wantGet(t, what, s.g, r, p)
	}
	for _, key := range append(near(keysOf(l)...), keys...) {
		if _, is := there[key]; !is {
			refuseGet(t, what, s.g, r, key, api.ErrMissing)
		}
	}
	wantAll(t, what, s.g, r, l)
	for _, from := range keys {
		for _, to := range keys {
			var between []item
			for _, p := range l {
				if p.key >= from && (to == "" || p.key < to) {
					between = append(between, p)
				}
			}
			wantBetween(t, what, s.g, r, from, to, between)
		}
	}
	s.check(t, what)
}

// P13.4: any sorted pairs, at any stamp, on a grid of any free blocks, are told as they were; behind a crash, too, if they were flushed.
func TestAnyPairsAreToldAsTheyWere(t *testing.T) {
	t.Parallel()
	chance := rand.New(rand.NewSource(13))
	for round := range 150 {
		hows := make([]int, 24)
		for i := range hows {
			hows[i] = chance.Intn(3) * chance.Intn(2) * chance.Intn(2)
		}
		l := anyPairs(chance)
		for len(packed(l))+1 > count(hows, free) {
			l = l[:len(l)/2]
		}
		s := beginAs(t, hows)
		r := s.wantBuild(t, "any pairs", l, chance.Intn(most+1))
		keys := []string{"", l[chance.Intn(len(l))].key, l[chance.Intn(len(l))].key, "\x80", string([]byte{byte(chance.Intn(256)), byte(chance.Intn(256))})}
		told(t, fmt.Sprint("round ", round), s, r, l, append(keys, near(firsts(l)[len(firsts(l))-1])...))
		ok(t, "Flush", s.g.Flush())
		ok(t, "Crash", s.d.Crash(nil, 0))
		s.reopen(t)
		told(t, fmt.Sprint("round ", round, ", crashed"), s, r, l, keys)
	}
}

// anyPairs are up to 64 pairs, some of whose keys are another one's beginning.
func anyPairs(chance *rand.Rand) []item {
	there := map[string]item{}
	wide := 1 + chance.Intn(256)
	long, great := 1+chance.Intn(32), chance.Intn(129)
	for range 1 + chance.Intn(64) {
		key, value := make([]byte, 1+chance.Intn(long)), make([]byte, chance.Intn(great+1))
		for i := range key {
			key[i] = byte(chance.Intn(wide))
		}
		chance.Read(value)
		p := item{key: string(key), value: string(value)}
		if chance.Intn(4) == 0 {
			p.value, p.gone = "", true
		}
		there[p.key] = p
	}
	return sorted(there)
}

// P13.5: each byte of each block of tables is turned: what asks for that block tells ErrFaulty, all else is told as it was; turned back, all is.
func TestTurnedAtAnyByte(t *testing.T) {
	t.Parallel()
	for _, l := range [][]item{{{key: "a", value: "1"}, {key: "b", gone: true}}, heavy(11)} {
		s := begin(t, 6)
		r := s.built(t, l, 5)
		keys := firsts(l)
		for address := 1; address <= len(keys)+1; address++ {
			for at := range 1024 {
				mask := []byte{1, 0x80, 0xff, 0x10}[at%4]
				s.turn(t, address, at, mask)
				for i, key := range keys {
					switch {
					case address == r.Root.Address || address == i+1:
						refuseGet(t, "turned", s.g, r, key, api.ErrFaulty)
						refuseBetween(t, "turned", s.g, r, key, key+"\x00", api.ErrFaulty)
					default:
						p, _ := parsed(packed(l)[i])
						wantGet(t, "another one is turned", s.g, r, p[0])
						wantBetween(t, "another one is turned", s.g, r, key, key+"\x00", p[:1])
					}
				}
				refuseAll(t, "turned", s.g, r, api.ErrFaulty)
				s.turn(t, address, at, mask)
			}
			wantAll(t, "turned back", s.g, r, l)
		}
	}
}

// P13.5: any bytes of any blocks are turned: what is told is as it was, or ErrFaulty is.
func TestAnyBytesTurned(t *testing.T) {
	t.Parallel()
	chance := rand.New(rand.NewSource(14))
	for range 250 {
		l := anyPairs(chance)
		s := begin(t, len(packed(l))+1)
		r := s.built(t, l, 5)
		for range 1 + chance.Intn(4) {
			s.turn(t, 1+chance.Intn(len(s.hows)), chance.Intn(1024), byte(1+chance.Intn(255)))
		}
		faults := 0
		for _, p := range l {
			got, e := table.Get(s.g, r, []byte(p.key))
			if e == api.ErrFaulty {
				faults++
			} else if e != api.OK || items([]api.Pair{got})[0] != p {
				t.Fatalf("Get(%q): %v, %v, want %v or ErrFaulty", p.key, got, e, p)
			}
			other := p.key + "\x00\x00"
			if _, e := table.Get(s.g, r, []byte(other)); e != api.ErrMissing && e != api.ErrFaulty && !slices.Contains(keysOf(l), other) {
				t.Fatalf("Get(%q), which was not built: %v", other, e)
			}
		}
		if got, e := table.All(s.g, r); e != api.ErrFaulty && (e != api.OK || !slices.Equal(items(got), l) || faults > 0) {
			t.Fatalf("All: %v, %v, where %d keys are ErrFaulty", items(got), e, faults)
		}
		for range 20 {
			i := chance.Intn(len(l))
			j := i + chance.Intn(len(l)-i)
			if got, e := table.Between(s.g, r, []byte(l[i].key), []byte(l[j].key)); e != api.ErrFaulty && (e != api.OK || !slices.Equal(items(got), l[i:j])) {
				t.Fatalf("Between: %v, %v, want %v or ErrFaulty", items(got), e, l[i:j])
			}
		}
		s.wanted = s.g.Wanted()
		s.wantCalls(t, "turned", r, keysOf(l)...)
		if len(s.wanted) == 0 {
			t.Error("nothing that is turned is wanted, though all was asked for")
		}
	}
}

// P13.5: turned so that the seal is right again, a block is what its bytes say.
func TestTurnedWithARightSeal(t *testing.T) {
	s := begin(t, 4)
	r := s.built(t, []item{{key: "a", value: "1"}, {key: "c", value: "2"}}, 5)
	s.lay(t, dataOf(ref(1, 5), item{key: "a", value: "3"}.bytes()+item{key: "b", gone: true}.bytes()))
	wantAll(t, "another body", s.g, r, []item{{key: "a", value: "3"}, {key: "b", gone: true}})
	refuseGet(t, "another body", s.g, r, "c", api.ErrMissing)
	named := dataOf(ref(1, 5), item{key: "a", value: "1"}.bytes()+item{key: "c", value: "2"}.bytes())
	named.Refs = []api.Ref{ref(3, 5)}
	s.lay(t, named)
	refuseAll(t, "Refs", s.g, r, api.ErrFaulty)
	s.check(t, "Refs")
	s.lay(t, dataOf(ref(1, 6), item{key: "a", value: "3"}.bytes()))
	refuseAll(t, "another stamp", s.g, r, api.ErrFaulty)
	s.wanted = []api.Ref{ref(1, 5)}
	s.check(t, "another stamp")
	s.lay(t, dataOf(ref(2, 5), item{key: "a", value: "3"}.bytes()))
	refuseAllCalls(t, "a data block in the index block's place", s.g, r, api.ErrFaulty)
	s.check(t, "a data block in the index block's place")
}

// P13.6: any sorted pairs, at most 64, have at most 16 data blocks: the greatest ones, and those of any two sizes by turns in five ways; they can be built, and told.
func TestAtMost16DataBlocks(t *testing.T) {
	t.Parallel()
	greatest := 0
	sized := func(size func(i int) int) []item {
		var l []item
		for i := range 64 {
			p := item{key: fmt.Sprintf("%02d", i)}
			left := max(size(i), 4) - 4
			p.value = strings.Repeat("v", min(left, 128))
			p.key += strings.Repeat("k", left-len(p.value))
			l = append(l, p)
		}
		return l
	}
	for a := 4; a <= 162; a++ {
		for b := 4; b <= 162; b += 1 + (a+b)%7 {
			way := (a + b) % 5
			l := sized(func(i int) int {
				if i%(way+2) == way {
					return a
				}
				return b
			})
			bodies, e := table.Pack(pairs(l))
			if e != api.OK || len(bodies) > 16 || len(bodies) != len(packed(l)) {
				t.Fatalf("pairs of %d and %d bytes: %d bodies, %v", a, b, len(bodies), e)
			}
			greatest = max(greatest, len(bodies))
		}
	}
	// Bodies that are filled as little as can be: five pairs of 140 bytes and one of 161 would have 861.
	l := sized(func(i int) int {
		if i%5 == 0 {
			return 161
		}
		return 140
	})
	for _, l := range [][]item{l, heavy(64), sized(func(int) int { return 162 })} {
		bodies := packed(l)
		greatest = max(greatest, len(bodies))
		if len(bodies) > 16 {
			t.Fatalf("%d bodies", len(bodies))
		}
		s := begin(t, len(bodies)+1)
		wantAll(t, "the most blocks", s.g, s.wantBuild(t, "the most blocks", l, 5), l)
	}
	if greatest < 13 {
		t.Errorf("no pairs have more than %d data blocks", greatest)
	}
}

// deeds takes numbers from bytes, noughts behind their end.
type deeds struct{ b []byte }

func (s *deeds) next(below int) int {
	if len(s.b) == 0 {
		return 0
	}
	x := int(s.b[0])
	s.b = s.b[1:]
	return x % below
}

// key is one of few.
func (s *deeds) key() string {
	return strings.Repeat(string([]byte{"\x00abz\xff"[s.next(5)]}), 1+s.next(4)*s.next(12)%33) + []string{"", "k", "\x00"}[s.next(3)]
}

// pairs are sorted ones, but for a few.
func (s *deeds) pairs() []item {
	there := map[string]item{}
	for range 1 + s.next(30) {
		p := item{key: s.key(), value: strings.Repeat("v", s.next(256)%129), gone: s.next(5) == 0}
		if p.gone {
			p.value = ""
		}
		there[p.key] = p
	}
	l := sorted(there)
	if s.next(16) == 0 {
		slices.Reverse(l)
	}
	return l
}

// block is an index block or a data block, most of them as said, that may stand anywhere.
func (s *deeds) block(blocks int) api.GridBlock {
	at := ref(1+s.next(blocks), s.next(3))
	l := s.pairs()
	b := dataOf(at, packed(l)[0])
	if s.next(2) == 0 {
		keys := keysOf(l)[:min(len(l), 1+s.next(6))]
		b = indexOf(at, 0, keys...)
		for range len(keys) + s.next(9)/8 {
			b.Refs = append(b.Refs, ref(1+s.next(blocks+1), s.next(3)))
		}
	}
	if b.Kind == 1 && s.next(8) == 0 {
		b.Refs = append(b.Refs, at)
	}
	if n := len(b.Body); s.next(8) == 0 {
		b.Body[s.next(n)] = byte(s.next(256))
	} else if s.next(12) == 0 {
		b.Body = b.Body[:s.next(n)]
	}
	if s.next(12) == 0 {
		b.Kind = 1 + s.next(15)
	}
	return b
}

// buildAsSaid wants Build to tell and to do what it must.
func (s *scene) buildAsSaid(t testing.TB, l []item, stamp int) api.Run {
	t.Helper()
	long := slices.ContainsFunc(l, func(p item) bool { return len(p.key) > 32 })
	e := api.OK
	switch {
	case long || !slices.IsSorted(keysOf(l)) || stamp < 0:
		e = api.ErrArg
	case len(packed(l))+1 > count(s.hows, free):
		e = api.ErrFull
	case !s.d.Up():
		e = api.ErrBroken
	}
	if e == api.OK {
		return s.wantBuild(t, "a script", l, stamp)
	}
	was := s.look(t)
	refuseBuild(t, "a script", s.g, pairs(l), stamp, e)
	s.unchanged(t, "a script", was)
	return api.Run{}
}

// step does one deed; runs are tables that were told.
func (s *scene) step(t testing.TB, by *deeds, runs []api.Run) []api.Run {
	t.Helper()
	r := api.Run{Root: ref(by.next(len(s.hows)+2), by.next(3))}
	if len(runs) > 0 && by.next(3) > 0 {
		r = runs[by.next(len(runs))]
	}
	switch by.next(12) {
	case 0, 1, 2:
		if x := s.buildAsSaid(t, by.pairs(), by.next(4)-by.next(16)/15); x.Count > 0 {
			runs = append(runs, x)
		}
	case 3:
		s.wantDrop(t, "a script", r)
	case 4:
		s.g.Settle()
		for i, how := range s.hows {
			s.hows[i] = how % letGo
		}
	case 5:
		s.turn(t, 1+by.next(len(s.hows)), by.next(256)*4+by.next(4), byte(by.next(256)))
	case 6, 7:
		if s.d.Up() {
			s.lay(t, by.block(len(s.hows)))
		}
	case 8:
		if by.next(3) == 0 && s.d.Up() {
			s.blow(t)
		}
	case 9:
		keeps := make([]bool, 40)
		for i := range keeps {
			keeps[i] = by.next(4) > 0
		}
		ok(t, "Crash", s.d.Crash(keeps, by.next(20)-1))
	default:
		s.wantCalls(t, "a script", r, by.key(), by.key())
		s.wantBetween(t, "a script", r, by.key(), by.key())
	}
	return runs
}

// play does deeds, and wants each call to tell what the chapter's words tell.
func play(t testing.TB, blocks int, script []byte) {
	t.Helper()
	s := begin(t, blocks)
	var runs []api.Run
	for by := (&deeds{script}); len(by.b) > 0 && !t.Failed(); {
		runs = s.step(t, by, runs)
		s.check(t, "a script")
	}
	ok(t, "Crash", s.d.Crash(slices.Repeat([]bool{true}, s.d.Sectors()), -1))
	for address := range blocks + 2 {
		for stamp := range 4 {
			s.wantCalls(t, "a script", api.Run{Root: ref(address, stamp)}, "a", "b")
		}
	}
}

// P13.1 to P13.5: whatever stands on a grid, and whatever happens to its disk, each call tells what the chapter's words tell.
func TestScripts(t *testing.T) {
	t.Parallel()
	chance := rand.New(rand.NewSource(15))
	for i := range 150 {
		script := make([]byte, 900)
		chance.Read(script)
		play(t, 3+i%12, script)
	}
}

// FuzzTable looks for deeds behind which a call tells other than the chapter's words.
func FuzzTable(f *testing.F) {
	f.Add(byte(8), []byte{0, 0, 0, 3, 1, 0, 5, 9, 2, 0, 1})
	f.Add(byte(3), slices.Repeat([]byte{1, 2, 0, 7, 3, 1, 100, 2, 11, 6, 0, 1, 4, 2}, 20))
	f.Fuzz(func(t *testing.T, blocks byte, script []byte) {
		play(t, 1+int(blocks)%14, script[:min(len(script), 1000)])
	})
}
