package slot_test

import (
	"bytes"
	"fmt"
	"math/rand"
	"testing"

	"exchequer/api"
	"exchequer/disk"
	"exchequer/slot"
)

// Where the one slot's header and its prepare stand on the disks of these tests.
const (
	headAt    = 0
	prepareAt = 1
)

// ok does not go on behind an error.
func ok(t testing.TB, what string, got api.Errno) {
	t.Helper()
	if got != api.OK {
		t.Fatalf("%s: %v", what, got)
	}
}

// lay writes bytes on a disk.
func lay(t testing.TB, d *disk.Disk, at int, b []byte) {
	t.Helper()
	ok(t, "Write", d.Write(at, b))
}

// emptied is a disk whose slot is empty, as the slot n.
func emptied(t testing.TB, n int) *disk.Disk {
	t.Helper()
	d, e := disk.New(6)
	ok(t, "New", e)
	b, e := slot.Unwritten(n)
	ok(t, "Unwritten", e)
	lay(t, d, headAt, b)
	ok(t, "Flush", d.Flush())
	return d
}

// written is a disk whose slot has a prepare, with its header.
func written(t testing.TB, m api.Message) *disk.Disk {
	t.Helper()
	d := emptied(t, m.H.Op%16)
	b, e := slot.Bytes(m)
	ok(t, "Bytes", e)
	lay(t, d, prepareAt, b)
	ok(t, "Flush", d.Flush())
	lay(t, d, headAt, b[:256])
	ok(t, "Flush", d.Flush())
	return d
}

// parts are what a disk has as its slot's header and as its prepare.
func parts(t testing.TB, d *disk.Disk) (head, prepare []byte) {
	t.Helper()
	head, e := d.Read(headAt, 1)
	ok(t, "Read", e)
	prepare, e = d.Read(prepareAt, 5)
	ok(t, "Read", e)
	return head, prepare
}

// look tells how a disk's slot is, and the prepare that it has, which must be that which the state tells.
func look(t testing.TB, d *disk.Disk, n int) (api.SlotState, api.Message) {
	t.Helper()
	head, prepare := parts(t, d)
	s := slot.Judge(head, prepare, n)
	m, whole := slot.Prepare(prepare, n)
	if s.State == api.Have && (!whole || m.H.Op != s.Op || m.H.View != s.View) {
		t.Fatalf("a slot that is %+v has %+v, %v", s, m.H, whole)
	}
	return s, m
}

// crashes are all ways in which a disk of loose sectors may crash: any of them kept, and any one of these torn, or none.
func crashes(t testing.TB, d *disk.Disk, each func(*disk.Disk)) {
	t.Helper()
	loose := len(d.Loose())
	for set := range 1 << loose {
		keeps := make([]bool, loose)
		stay := 0
		for i := range keeps {
			keeps[i] = set>>i&1 == 1
			if keeps[i] {
				stay++
			}
		}
		for tear := -1; tear < stay; tear++ {
			c := d.Clone()
			ok(t, "Crash", c.Crash(keeps, tear))
			each(c)
		}
	}
}

// follows are prepares with which crashes are gone through: bodies that end in each half of each sector, and some of noughts.
func follows() []api.Message {
	var l []api.Message
	for i, count := range []int{0, 1, 100, 128, 129, 256, 257, 400, 512, 600, 768, 800, 1000, 1023, 1024} {
		l = append(l, full(17+i, count), prepare(most-i, i, count))
	}
	for _, count := range []int{1, 200, 300, 700, 1024} {
		l = append(l, api.Message{H: api.Header{Command: 2, Op: 5, Size: count}, Body: zeros(count)})
	}
	half := append(zeros(512), some(512)...)
	return append(l, api.Message{H: api.Header{Command: 2, Op: 6, View: 1, Size: 1024}, Body: half})
}

// P7.3: a prepare that is being written into an empty slot, in all crashes: Empty, Torn, or just that prepare, whose header is to be written then.
func TestCrashesOfPrepares(t *testing.T) {
	seen := map[int]int{}
	for _, m := range follows() {
		n := m.H.Op % 16
		d := emptied(t, n)
		b, e := slot.Bytes(m)
		ok(t, "Bytes", e)
		lay(t, d, prepareAt, b)
		crashes(t, d, func(c *disk.Disk) {
			s, got := look(t, c, n)
			seen[s.State]++
			_, left := parts(t, c)
			switch {
			case s == empty && bytes.Equal(left, zeros(1280)):
			case s == torn && !bytes.Equal(left, zeros(1280)):
			case s == mend(m.H.Op, m.H.View) && same(got, m):
			default:
				t.Fatalf("%+v: %+v, %+v", m.H, s, got.H)
			}
			if whole := bytes.Equal(left[:256+len(m.Body)], b[:256+len(m.Body)]); whole != (s.State == api.Have) {
				t.Fatalf("%+v: %+v, though its bytes being all there is %v", m.H, s, whole)
			}
		})
	}
	if seen[api.Empty] == 0 || seen[api.Torn] == 0 || seen[api.Have] == 0 {
		t.Errorf("not all states came: %v", seen)
	}
}

// P7.3: a prepare that was written whole, its header being written, or not yet, in all crashes: just that prepare; behind the header's flush, without a Mend.
func TestCrashesOfHeaders(t *testing.T) {
	for _, m := range follows() {
		n := m.H.Op % 16
		d := emptied(t, n)
		b, e := slot.Bytes(m)
		ok(t, "Bytes", e)
		wantHas := func(what string, mends ...bool) {
			seen := map[bool]int{}
			crashes(t, d, func(c *disk.Disk) {
				s, got := look(t, c, n)
				seen[s.Mend]++
				s.Mend = false
				if s != have(m.H.Op, m.H.View) || !same(got, m) {
					t.Fatalf("%s, %+v: %+v, %+v", what, m.H, s, got.H)
				}
			})
			if len(seen) != len(mends) || seen[mends[0]] == 0 {
				t.Errorf("%s: Mend is %v", what, seen)
			}
		}
		lay(t, d, prepareAt, b)
		ok(t, "Flush", d.Flush())
		wantHas("no header yet", true)
		lay(t, d, headAt, b[:256])
		wantHas("its header being written", true, false)
		ok(t, "Flush", d.Flush())
		wantHas("its header written", false)
	}
}

// P7.3: a prepare that is written in the place of an older one, in all crashes, and then its header: the slot has the one, or the other one, or tells the older one to be Faulty; behind the prepare's flush it has the new one.
func TestCrashesOverAnOlderOne(t *testing.T) {
	seen := map[api.SlotState]int{}
	for _, oldCount := range []int{0, 1, 300, 1024} {
		for _, count := range []int{0, 2, 256, 700, 1024} {
			for _, older := range []api.Message{full(17, oldCount), prepare(33, 3, oldCount)} {
				m := prepare(33, 4, count)
				d := written(t, older)
				b, e := slot.Bytes(m)
				ok(t, "Bytes", e)
				lay(t, d, prepareAt, b)
				crashes(t, d, func(c *disk.Disk) {
					s, got := look(t, c, 1)
					seen[s]++
					switch {
					case s == mend(33, 4) && same(got, m):
					case s == have(older.H.Op, older.H.View) && same(got, older):
					case s == faulty(older.H.Op, older.H.View):
					default:
						t.Fatalf("%+v over %+v: %+v, %+v", m.H, older.H, s, got.H)
					}
				})
				ok(t, "Flush", d.Flush())
				lay(t, d, headAt, b[:256])
				crashes(t, d, func(c *disk.Disk) {
					if s, got := look(t, c, 1); s != have(33, 4) && s != mend(33, 4) || !same(got, m) {
						t.Fatalf("%+v over %+v, its header: %+v, %+v", m.H, older.H, s, got.H)
					}
				})
			}
		}
	}
	if len(seen) != 5 {
		t.Errorf("not all states came: %v", seen)
	}
}

// P7.3: a prepare that is written into what a crash left of another one, without a header: the slot is never Faulty, and never has what is neither of the two.
func TestCrashesBehindCrashes(t *testing.T) {
	first, second := prepare(17, 2, 600), full(33, 900)
	d := emptied(t, 1)
	lay(t, d, prepareAt, image(first))
	crashes(t, d, func(d *disk.Disk) {
		was, _ := look(t, d, 1)
		lay(t, d, prepareAt, image(second))
		crashes(t, d, func(c *disk.Disk) {
			s, got := look(t, c, 1)
			switch {
			case s == torn:
			case s == empty && was == empty:
			case s == mend(17, 2) && same(got, first) && s == was:
			case s == mend(33, second.H.View) && same(got, second):
			default:
				t.Fatalf("a slot that was %+v: %+v, %+v", was, s, got.H)
			}
		})
	})
}

// turned is how a slot is that had a prepare, when bytes of its header, of its prepare or of both are turned; bytes behind the prepare do not count.
func turned(m api.Message, head, prepare bool) api.SlotState {
	switch {
	case head && prepare:
		return faulty(0, 0)
	case prepare:
		return faulty(m.H.Op, m.H.View)
	case head:
		return mend(m.H.Op, m.H.View)
	}
	return have(m.H.Op, m.H.View)
}

// P7.4: each bit of a slot's header and of its prepare, turned: the slot has the prepare that it had, or none.
func TestTurnedBits(t *testing.T) {
	for _, m := range []api.Message{full(17, 0), prepare(33, 2, 1), full(most, 300), prepare(1, 0, 1024)} {
		n := m.H.Op % 16
		b := image(m)
		head := bytes.Clone(b[:256])
		for at := range head {
			for bit := range 8 {
				head[at] ^= 1 << bit
				wantState(t, fmt.Sprintf("a bit of the header, at %d", at), head, b, n, turned(m, true, false))
				head[at] ^= 1 << bit
			}
		}
		for at := range b {
			counts := at < 256+len(m.Body)
			for bit := range 8 {
				b[at] ^= 1 << bit
				wantState(t, fmt.Sprintf("a bit of the prepare, at %d", at), head, b, n, turned(m, false, counts))
				if got, whole := slot.Prepare(b, n); whole == counts || whole && !same(got, m) {
					t.Errorf("a bit at %d: %+v, %v", at, got.H, whole)
				}
				b[at] ^= 1 << bit
			}
		}
	}
}

// P7.4: each bit of what says that a slot is unwritten, turned, and of the noughts, or of a prepare, that stand beside it: the slot never has what it had not.
func TestTurnedBitsOfUnwritten(t *testing.T) {
	m := prepare(17, 2, 40)
	b, zero, head := image(m), zeros(1280), none(1)
	for at := range 1280 {
		for bit := range 8 {
			mask := byte(1) << bit
			if at < 256 {
				head[at] ^= mask
				wantState(t, "the header of an empty slot", head, zero, 1, faulty(0, 0))
				wantState(t, "the header of a torn slot", head, b[:290], 1, faulty(0, 0))
				wantState(t, "the header beside a prepare", head, b, 1, mend(17, 2))
				head[at] ^= mask
			}
			zero[at] ^= mask
			wantState(t, "the noughts of an empty slot", head, zero, 1, torn)
			zero[at] ^= mask
			b[at] ^= mask
			want := torn
			if at >= 256+40 {
				want = mend(17, 2)
			}
			wantState(t, "a prepare beside an unwritten header", head, b, 1, want)
			b[at] ^= mask
		}
	}
}

// P7.4: many bytes turned, of either or of both, on a disk: the slot has the prepare that it had, or none.
func TestManyTurned(t *testing.T) {
	chance := rand.New(rand.NewSource(7))
	for _, m := range follows() {
		n := m.H.Op % 16
		d := written(t, m)
		for range 200 {
			c := d.Clone()
			for range 1 + chance.Intn(40) {
				ok(t, "Turn", c.Turn(chance.Intn(6), chance.Intn(256), byte(1+chance.Intn(255))))
			}
			head, b := parts(t, c)
			whole := bytes.Equal(b[:256+len(m.Body)], laid(m))
			s, got := look(t, c, n)
			if want := turned(m, !bytes.Equal(head, laid(m)[:256]), !whole); s != want {
				t.Fatalf("%+v: %+v, want %+v", m.H, s, want)
			}
			if whole && !same(got, m) || !whole && !same(got, api.Message{}) {
				t.Fatalf("%+v: %+v", m.H, got.H)
			}
		}
	}
}

// P7.4: the front of one prepare and the rest of another one, cut at each place: the seals tell that they are not of one.
func TestMixedPrepares(t *testing.T) {
	one, other, like := full(17, 1024), prepare(33, 2, 1024), prepare(33, 2, 1024)
	spoil(other.Body)
	spoil(like.Body)
	like.Body[1023] ^= 1
	a, b, c := image(one), image(other), image(like)
	for at := 1; at < 1280; at++ {
		mixed := append(bytes.Clone(a[:at]), b[at:]...)
		wantState(t, fmt.Sprint("unwritten, cut at ", at), none(1), mixed, 1, torn)
		wantState(t, fmt.Sprint("the earlier header, cut at ", at), a[:256], mixed, 1, faulty(17, one.H.View))
		wantState(t, fmt.Sprint("the later header, cut at ", at), b[:256], mixed, 1, faulty(33, 2))
		mixed = append(bytes.Clone(b[:at]), c[at:]...)
		wantState(t, fmt.Sprint("two of one op and view, cut at ", at), b[:256], mixed, 1, faulty(33, 2))
	}
}

// FuzzJudge looks for bytes, sealed or not, of which a slot has another prepare than stands there.
func FuzzJudge(f *testing.F) {
	for _, m := range messages() {
		f.Add(laid(m)[:256], image(m), m.H.Op%16, true)
		f.Add(none(m.H.Op%16), laid(m), m.H.Op%16, false)
	}
	f.Add([]byte{}, []byte{}, -1, true)
	f.Fuzz(func(t *testing.T, head, b []byte, n int, seal bool) {
		head, b = bytes.Clone(head), bytes.Clone(b)
		if seal && len(b) >= 256 {
			// The body's seal, too, as far as the Size says what it is of.
			size := int(b[40]) + int(b[41])<<8
			put(b[16:], b[256:min(len(b), 256+size)])
			reseal(b)
		}
		if seal && len(head) == 256 {
			reseal(head)
		}
		s := slot.Judge(head, b, n)
		m, whole := slot.Prepare(b, n)
		if whole && (m.H.Command != 2 || m.H.Op < 1 || m.H.Op%16 != n || !bytes.HasPrefix(b, laid(m))) {
			t.Errorf("Prepare tells what does not stand there: %+v", m.H)
		}
		if !whole && !same(m, api.Message{}) {
			t.Errorf("Prepare tells nothing, and %+v", m.H)
		}
		if (n < 0 || n > 15) != (s == api.SlotState{}) {
			t.Errorf("slot %d: %+v", n, s)
		}
		if s.State == api.Have && (!whole || s.Op != m.H.Op || s.View != m.H.View || s.Mend == bytes.Equal(head, b[:256])) {
			t.Errorf("%+v, but %+v", s, m.H)
		}
		if s.State != api.Have && s.Mend || s.State == api.Torn && s != torn || s.State == api.Empty && s != empty {
			t.Errorf("%+v", s)
		}
	})
}
