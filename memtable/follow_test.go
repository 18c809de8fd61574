package memtable_test

import (
	"bytes"
	"math/rand"
	"slices"
	"testing"

	"exchequer/api"
	"exchequer/memtable"
)

// deeds takes numbers from bytes, noughts behind their end.
type deeds struct{ b []byte }

func (d *deeds) next() int {
	if len(d.b) == 0 {
		return 0
	}
	x := int(d.b[0])
	d.b = d.b[1:]
	return x
}

// key is mostly one of few, so that keys come again; else one of up to 34 bytes.
func (d *deeds) key() string {
	x := d.next()
	switch {
	case x < 140:
		return crowdKey(x % 70)
	case x < 180:
		return edgeKeys()[x%len(edgeKeys())]
	case x < 240:
		return string([]byte{byte(d.next()), byte(d.next())}[:1+x%2])
	}
	return string(bytes.Repeat([]byte{byte(d.next())}, d.next()%35))
}

// value is one of few bytes, or of up to 130.
func (d *deeds) value() string {
	x := d.next()
	if x < 200 {
		return string([]byte{byte(x), byte(d.next())}[:x%3])
	}
	return string(bytes.Repeat([]byte{byte(x)}, d.next()%131))
}

// scene is a table and the plain one, and a table that was put by, with what it must be.
type scene struct {
	m, by     *memtable.Table
	p, byWhat plain
}

// step does one deed to both.
func (c *scene) step(t testing.TB, d *deeds) {
	t.Helper()
	switch d.next() % 12 {
	case 0, 1, 2, 3:
		put(t, c.m, c.p, d.key(), d.value())
	case 4, 5:
		remove(t, c.m, c.p, d.key())
	case 6:
		wantGet(t, "Get", c.m, c.p, d.key())
	case 7:
		wantBetween(t, c.m, c.p, d.key(), d.key())
	case 8:
		three := []string{d.key(), d.key(), d.key()}
		slices.Sort(three)
		if three[1] != "" { // as a to it would be none: then these do not rise
			wantCut(t, c.m, three[0], three[1], three[2])
		}
	case 9:
		for range d.next() % 64 {
			put(t, c.m, c.p, d.key(), d.value())
		}
	case 10:
		wantTable(t, "what was put by", c.by, c.byWhat)
		c.by, c.byWhat = c.m.Clone(), plain{}
		for key, l := range c.p {
			c.byWhat[key] = l
		}
		if d.next()%2 == 0 {
			c.m, c.by = c.by, c.m
		}
	case 11:
		if d.next()%8 == 0 {
			c.m, c.p = memtable.New(), plain{}
		}
	}
}

// play does deeds to a table and to the plain one, and wants them to be the same behind each.
func play(t testing.TB, script []byte) {
	t.Helper()
	c := &scene{m: memtable.New(), by: memtable.New(), p: plain{}, byWhat: plain{}}
	for d := (&deeds{script}); len(d.b) > 0 && !t.Failed(); {
		c.step(t, d)
		wantTable(t, "a script", c.m, c.p)
	}
	wantTable(t, "what was put by", c.by, c.byWhat)
}

// P12.1 to P12.5: behind any calls, one behind the other, a table is a plain map from keys to what came last under them.
func TestScripts(t *testing.T) {
	chance := rand.New(rand.NewSource(12))
	for range 300 {
		script := make([]byte, 500)
		chance.Read(script)
		play(t, script)
	}
}

// FuzzTable looks for calls behind which a table is not as it must be.
func FuzzTable(f *testing.F) {
	f.Add([]byte{0, 1, 5, 0, 0, 2, 7, 9, 4, 1, 6, 1, 7, 1, 2, 8, 1, 2, 3, 10, 0, 11, 0})
	f.Add(bytes.Repeat([]byte{9, 255, 3}, 90))
	f.Fuzz(func(t *testing.T, script []byte) { play(t, script[:min(len(script), 600)]) })
}

// FuzzPairs looks for pairs of which Check and Sorted tell other than the chapter's words.
func FuzzPairs(f *testing.F) {
	f.Add([]byte("a"), []byte("ab"), []byte("b"), false)
	f.Add([]byte{}, bytes.Repeat([]byte{0}, 33), bytes.Repeat([]byte{255}, 129), true)
	f.Fuzz(func(t *testing.T, a, b, c []byte, gone bool) {
		e := api.OK
		if len(a) == 0 || len(a) > 32 || len(b) > 128 || gone && len(b) > 0 {
			e = api.ErrArg
		}
		want(t, "Check", memtable.Check(api.Pair{Key: a, Value: b, Gone: gone}), e)
		l := []api.Pair{{Key: a, Value: b, Gone: gone}, {Key: b, Value: c}, {Key: c, Value: a}}
		wantSorted(t, l, string(a) < string(b) && string(b) < string(c))
		wantSorted(t, l[:2], string(a) < string(b))
	})
}
