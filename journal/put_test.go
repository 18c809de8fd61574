package journal_test

import (
	"bytes"
	"fmt"
	"math"
	"testing"

	"exchequer/api"
	"exchequer/journal"
)

// wrongs are messages that slot.Bytes refuses.
func wrongs() []api.Message {
	long := api.Message{H: api.Header{Command: 3, Op: -1}, Body: some(1025)}
	l := []api.Message{{}, prepare(0, 0, 0), prepare(17, 0, 1025), prepare(0, 0, 1025), long, {H: api.Header{Command: 1, Address: 3}}}
	for _, command := range []int{-1, 0, 1, 3, 31, 32} {
		m := full(17, 9)
		m.H.Command = command
		l = append(l, m)
	}
	for _, x := range []int{math.MinInt, -16, -1, most + 1, 1<<32 + 1, math.MaxInt} {
		l = append(l, prepare(x, 0, 3), prepare(17, x, 3))
	}
	m := full(17, 3)
	m.H.Replica = 7
	return append(l, m)
}

// refusal is the error that slot.Bytes tells of a message that it refuses, by its chapter's words.
func refusal(m api.Message) api.Errno {
	if len(m.Body) > 1024 {
		return api.ErrLong
	}
	return api.ErrArg
}

// prepares are some of all slots: without a body, with one, with the longest that may be; of the least op and view, the greatest and others.
func prepares() []api.Message {
	var l []api.Message
	for _, op := range []int{1, 2, 15, 16, 17, 0x11121314, most - 1, most} {
		for _, count := range []int{0, 1, 255, 256, 257, 768, 1023, 1024} {
			l = append(l, prepare(op, 0, count), prepare(op, most, count), full(op, count))
		}
	}
	for op := range 40 {
		l = append(l, prepare(op+1, op%3, op*25))
	}
	return l
}

// P8.2: what is put is got, at once and when the journal is opened anew, and nothing else is changed by it.
func TestPutAndGet(t *testing.T) {
	d := formatted(t)
	j := opened(t, d)
	known := empties()
	last := map[int]api.Message{}
	for _, m := range prepares() {
		n := m.H.Op % 16
		was := look(t, d)
		ok(t, "Put", j.Put(m))
		wantSame(t, "Put", look(t, d), behind(was, putChanges(m), true))
		known[n], last[n] = have(m.H.Op, m.H.View), m
		anew := opened(t, d)
		wantSlots(t, "put", j, known)
		wantSlots(t, "opened anew", anew, known)
		for _, there := range last {
			wantGet(t, "put", j, there)
			wantGet(t, "opened anew", anew, there)
		}
	}
}

// P8.2: several ops of one slot: whatever stood there, what was put last is there, and nothing else of that slot is known.
func TestPutIntoOneSlot(t *testing.T) {
	d := formatted(t)
	j := opened(t, d)
	for i, m := range []api.Message{
		prepare(1, 0, 5), prepare(17, 2, 0), prepare(33, 1, 1024), prepare(17, 2, 7), prepare(17, 1, 3), prepare(17, 3, 300),
		prepare(17, 3, 300), prepare(17, 3, 4), prepare(1, 0, 0), full(most-15, 1024), prepare(1, 9, 1),
	} {
		ok(t, "Put", j.Put(m))
		for _, k := range []*journal.Journal{j, opened(t, d)} {
			for _, op := range []int{1, 17, 33, most - 15} {
				if op == m.H.Op {
					wantGet(t, fmt.Sprint("the Put ", i), k, m)
				} else {
					refuseGet(t, fmt.Sprint("the Put ", i), k, op, api.ErrMissing)
				}
			}
		}
	}
}

// P8.2: Put's four changes, one by one, whatever the slot was and whatever its neighbours are.
func TestPutsChanges(t *testing.T) {
	for _, ring := range rings() {
		d := having(t, ring)
		for _, m := range []api.Message{prepare(1, 0, 0), prepare(16, 3, 1), full(15, 1024), prepare(34, 2, 300), prepare(most-4, most, 768)} {
			after := stateOf(ring)
			after[m.H.Op%16] = have(m.H.Op, m.H.View)
			what := fmt.Sprintf("Put of %d over %s", m.H.Op, ring[m.H.Op%16].name)
			wantChanges(t, what, d, putChanges(m), after, func(j *journal.Journal) api.Errno { return j.Put(m) })
		}
	}
}

// P8.2: of loose sectors that others left the prepare's flush makes safe what they are, too.
func TestPutBesideLooseSectors(t *testing.T) {
	d := filled(t, 200)
	ok(t, "Flush", d.Flush())
	ok(t, "Write", d.Write(0, some(256)))
	ok(t, "Write", d.Write(prepareAt(1)+1, some(3*256)))
	ok(t, "Write", d.Write(150, some(256)))
	after := opened(t, d).Slots()
	after[1] = have(17, 2)
	wantChanges(t, "loose sectors", d, putChanges(prepare(17, 2, 3)), after, func(j *journal.Journal) api.Errno { return j.Put(prepare(17, 2, 3)) })
}

// P8.2: the Size that a prepare says does not count.
func TestPutTakesBodysSize(t *testing.T) {
	for _, count := range []int{0, 1, 1024} {
		for _, size := range []int{-1, 0, 1, 1024, 1025, math.MaxInt} {
			d := formatted(t)
			j := opened(t, d)
			m := prepare(33, 4, count)
			m.H.Size = size
			ok(t, "Put", j.Put(m))
			wantGet(t, "another Size", j, prepare(33, 4, count))
			wantGet(t, "another Size", opened(t, d), prepare(33, 4, count))
		}
	}
}

// P8.2, rule 3: what slot.Bytes refuses is refused so, ahead of a disk that is out, and nothing is changed, not even a fuse.
func TestPutRefuses(t *testing.T) {
	for _, ring := range rings()[:4] {
		d := having(t, ring)
		j := opened(t, d)
		was := look(t, d)
		fuse(t, d, 0)
		for _, m := range wrongs() {
			want(t, fmt.Sprintf("Put of %+v", m.H), j.Put(m), refusal(m))
		}
		wantSame(t, "refused", look(t, d), was)
		wantSlots(t, "refused", j, stateOf(ring))
		blow(t, d)
		was = look(t, d)
		for _, m := range wrongs() {
			want(t, fmt.Sprintf("out: Put of %+v", m.H), j.Put(m), refusal(m))
		}
		want(t, "out", j.Put(prepare(1, 0, 0)), api.ErrBroken)
		wantSame(t, "out", look(t, d), was)
		wantSlots(t, "out", j, stateOf(ring))
	}
}

// P8.2: a Put that the disk broke off is not known, even when the disk is up again; put again, it is.
func TestPutBehindABrokenOne(t *testing.T) {
	old, m := prepare(1, 0, 500), prepare(17, 2, 700)
	for stop := range 4 {
		for _, keeps := range [][]bool{nil, yes(5)} {
			d := formatted(t)
			j := opened(t, d)
			ok(t, "Put", j.Put(old))
			fuse(t, d, stop)
			want(t, "Put", j.Put(m), api.ErrBroken)
			ok(t, "Crash", d.Crash(keeps, -1))
			refuseGet(t, "broken off", j, 17, api.ErrMissing)
			if stop == 0 || stop == 1 && keeps == nil {
				wantGet(t, "broken off ahead of all", j, old)
			} else {
				refuseGet(t, "broken off behind the prepare", j, 1, api.ErrFaulty)
			}
			ok(t, "Put", j.Put(m))
			wantGet(t, "put again", j, m)
			refuseGet(t, "put again", j, 1, api.ErrMissing)
			wantGet(t, "put again, opened anew", opened(t, d), m)
		}
	}
}

// Rule 4: what Put is handed stays as it was, its spare room is not read, and nothing of it is kept.
func TestPutKeepsNothingHandedIn(t *testing.T) {
	for _, count := range []int{0, 1, 255, 256, 1023, 1024} {
		room := some(count + 400)
		was := bytes.Clone(room)
		m := full(17, 0)
		m.Body = room[:count]
		m.H.Size = count
		kept := api.Message{H: m.H, Body: was[:count]}
		d := formatted(t)
		j := opened(t, d)
		ok(t, "Put", j.Put(m))
		if !bytes.Equal(room, was) || m.H != kept.H {
			t.Errorf("%d bytes: what was handed in has changed", count)
		}
		b, e := d.Read(prepareAt(1), 5)
		ok(t, "Read", e)
		if !bytes.Equal(b, image(kept)) {
			t.Errorf("%d bytes: the spare room was looked at", count)
		}
		spoil(room)
		wantGet(t, "what was handed in is spoilt", j, kept)
		wantGet(t, "what was handed in is spoilt", opened(t, d), kept)
	}
}
