package journal_test

import (
	"bytes"
	"math/rand"
	"slices"
	"testing"

	"exchequer/api"
	"exchequer/disk"
	"exchequer/journal"
	"exchequer/slot"
)

// plain is a journal by the chapter's words, of a disk of its own that all is done to that is done to the other one's.
type plain struct {
	d     *disk.Disk
	known []api.SlotState
}

// bytesAt are what the plain journal's disk has there.
func (p *plain) bytesAt(t testing.TB, at, n int) []byte {
	t.Helper()
	b, e := p.d.Read(at, n)
	ok(t, "Read", e)
	return b
}

// open looks at all slots; the disk is up.
func (p *plain) open(t testing.TB) {
	t.Helper()
	p.known = nil
	for n := range 16 {
		p.known = append(p.known, slot.Judge(p.bytesAt(t, headAt(n), 1), p.bytesAt(t, prepareAt(n), 5), n))
	}
}

// change makes changes, and knows the slots to be so behind all of them.
func (p *plain) change(l []change, after []api.SlotState) api.Errno {
	for _, c := range l {
		var e api.Errno
		if c.b == nil {
			e = p.d.Flush()
		} else {
			e = p.d.Write(c.at, c.b)
		}
		if e != api.OK {
			return e
		}
	}
	p.known = after
	return api.OK
}

func (p *plain) put(m api.Message) api.Errno {
	after := slices.Clone(p.known)
	after[slotOf(m.H.Op)] = have(m.H.Op, m.H.View)
	return p.change(putChanges(m), after)
}

func (p *plain) get(t testing.TB, op int) (api.Message, api.Errno) {
	t.Helper()
	n := slotOf(op)
	s := p.known[n]
	switch {
	case !p.d.Up():
		return api.Message{}, api.ErrBroken
	case op < 1 || s.Op != op || s.State != api.Have && s.State != api.Faulty:
		return api.Message{}, api.ErrMissing
	case s.State == api.Faulty:
		return api.Message{}, api.ErrFaulty
	}
	m, whole := slot.Prepare(p.bytesAt(t, prepareAt(n), 5), n)
	if !whole || m.H.Op != op || m.H.View != s.View {
		p.known[n] = faulty(op, s.View)
		return api.Message{}, api.ErrFaulty
	}
	return m, api.OK
}

func (p *plain) mend(t testing.TB) api.Errno {
	t.Helper()
	if !p.d.Up() {
		return api.ErrBroken
	}
	var l []change
	for n, s := range p.known {
		if s.State == api.Have && s.Mend {
			l = append(l, change{headAt(n), p.bytesAt(t, prepareAt(n), 1)})
		}
	}
	if len(l) > 0 {
		l = append(l, change{})
	}
	return p.change(l, mended(p.known))
}

func (p *plain) cut(op int) api.Errno {
	if !p.d.Up() {
		return api.ErrBroken
	}
	return p.change(cutChanges(p.known, op), cut(p.known, op))
}

// deeds takes numbers from bytes, noughts behind their end.
type deeds struct{ b []byte }

func (s *deeds) next(below int) int {
	if len(s.b) == 0 {
		return 0
	}
	x := int(s.b[0])
	s.b = s.b[1:]
	return x % below
}

// scene is a journal and the plain one beside it, and all that was put, or was being put.
type scene struct {
	d    *disk.Disk
	j    *journal.Journal
	p    *plain
	puts []api.Message
}

// both wants a deed to be done to both disks with the same answer.
func (s *scene) both(t testing.TB, what string, deed func(*disk.Disk) api.Errno) {
	t.Helper()
	want(t, what, deed(s.d), deed(s.p.d))
}

// crash lets both disks crash, and opens the journals anew, or goes on with them.
func (s *scene) crash(t testing.TB, by *deeds) {
	t.Helper()
	keeps := make([]bool, 20)
	for i := range keeps {
		keeps[i] = by.next(2) == 1
	}
	tear := by.next(8) - 1
	s.both(t, "Crash", func(d *disk.Disk) api.Errno { return d.Crash(keeps, tear) })
	if by.next(4) > 0 {
		s.j = opened(t, s.d)
		s.p.open(t)
	}
}

// get wants Get to tell what the plain journal does, and nothing that was never put at that op and view.
func (s *scene) get(t testing.TB, op int) {
	t.Helper()
	m, e := s.j.Get(op)
	plain, f := s.p.get(t, op)
	if e != f || !same(m, plain) {
		t.Fatalf("Get(%d): %+v, %v, want %+v, %v", op, m.H, e, plain.H, f)
	}
	if e == api.OK && !slices.ContainsFunc(s.puts, func(x api.Message) bool { return same(x, m) }) {
		t.Fatalf("Get(%d): %+v was never put", op, m.H)
	}
}

// step does one deed to both.
func (s *scene) step(t testing.TB, by *deeds) {
	t.Helper()
	switch by.next(10) {
	case 0, 1, 2:
		m := prepare(1+by.next(40), by.next(3), by.next(200)*6)
		if len(m.Body) > 1024 {
			want(t, "Put", s.j.Put(m), api.ErrLong)
			return
		}
		// Bodies of one length need not be alike.
		spoil(m.Body[:len(m.Body)*by.next(3)/2])
		s.puts = append(s.puts, m)
		want(t, "Put", s.j.Put(m), s.p.put(m))
	case 3, 4:
		s.get(t, by.next(44)-2)
	case 5:
		want(t, "Mend", s.j.Mend(), s.p.mend(t))
	case 6:
		op := by.next(60) - 2
		want(t, "Cut", s.j.Cut(op), s.p.cut(op))
	case 7:
		at, place, mask := 8+by.next(96), by.next(256), byte(by.next(256))
		s.both(t, "Turn", func(d *disk.Disk) api.Errno { return d.Turn(at, place, mask) })
	case 8:
		n := by.next(12)
		fuse(t, s.d, n)
		fuse(t, s.p.d, n)
	case 9:
		s.crash(t, by)
	}
}

// play does deeds to both, and wants them to be the same behind each.
func play(t testing.TB, script []byte) {
	t.Helper()
	s := &scene{d: formatted(t)}
	s.p = &plain{d: s.d.Clone()}
	s.j = opened(t, s.d)
	s.p.open(t)
	by := &deeds{script}
	for len(by.b) > 0 && !t.Failed() {
		s.step(t, by)
		wantSlots(t, "a script", s.j, s.p.known)
		wantSame(t, "a script", look(t, s.d), look(t, s.p.d))
	}
	s.both(t, "Crash", func(d *disk.Disk) api.Errno { return d.Crash(nil, -1) })
	for op := -1; op < 44; op++ {
		s.get(t, op)
	}
}

// P8.1 to P8.6: a journal is as the plain one, behind each of many deeds, whatever happens to its disk.
func TestScripts(t *testing.T) {
	t.Parallel()
	chance := rand.New(rand.NewSource(23))
	for range 150 {
		script := make([]byte, 400)
		chance.Read(script)
		play(t, script)
	}
}

// FuzzJournal looks for deeds behind which a journal is not as it must be.
func FuzzJournal(f *testing.F) {
	f.Add([]byte{0, 0, 0, 5, 0, 3, 2, 9})
	f.Add(bytes.Repeat([]byte{0, 16, 1, 100, 2, 8, 2, 9, 1, 0, 1, 1, 3, 18}, 12))
	f.Fuzz(func(t *testing.T, script []byte) { play(t, script[:min(len(script), 1000)]) })
}

// The chapter's examples.
func TestExamples(t *testing.T) {
	d := made(t, 104)
	p, q := prepare(17, 2, 0), prepare(1, 0, 12)
	ok(t, "Format", journal.Format(d))
	j := opened(t, d)
	wantSlots(t, "formatted", j, empties())
	ok(t, "Put", j.Put(q))
	wantGet(t, "q", j, q)
	refuseGet(t, "q", j, 2, api.ErrMissing)
	refuseGet(t, "q", j, 17, api.ErrMissing)
	ok(t, "Put", j.Put(p))
	wantGet(t, "p", j, p)
	refuseGet(t, "p", j, 1, api.ErrMissing)
	j = opened(t, d)
	wantGet(t, "opened anew", j, p)
	ok(t, "Turn", d.Turn(29, 7, 1))
	refuseGet(t, "turned", j, 17, api.ErrFaulty)
	after := empties()
	after[1] = faulty(17, 2)
	wantSlots(t, "turned", j, after)
	ok(t, "Cut", j.Cut(16))
	refuseGet(t, "cut", j, 17, api.ErrMissing)
	wantSlots(t, "cut, opened anew", opened(t, d), empties())
	wantShut(t, "103 sectors", made(t, 103), api.ErrRange)
	want(t, "Command 3", j.Put(api.Message{H: api.Header{Command: 3}}), api.ErrArg)
}
