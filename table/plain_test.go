package table_test

import (
	"bytes"
	"encoding/binary"
	"slices"
	"strings"
	"testing"

	"exchequer/api"
	"exchequer/table"
)

// The methods of a scene that follow tell by the chapters' words what table's calls must tell, from what stands on the disk.

// want notes that a ref is wanted.
func (s *scene) want(r api.Ref) {
	if !slices.Contains(s.wanted, r) {
		s.wanted = append(s.wanted, r)
	}
}

// mayBe tells whether there may be such a block, by the words of chapter 10.
func mayBe(b api.GridBlock) bool {
	for _, r := range append([]api.Ref{b.Ref}, b.Refs...) {
		if r.Address < 1 || r.Address > 512 || r.Stamp < 0 || r.Stamp > most {
			return false
		}
	}
	return b.Kind >= 1 && b.Kind <= 15
}

// read is what grid.Read must tell.
func (s *scene) read(r api.Ref) (api.GridBlock, api.Errno) {
	if !s.d.Up() {
		return api.GridBlock{}, api.ErrBroken
	}
	if r.Address < 1 || r.Address > len(s.hows) || r.Stamp < 0 || r.Stamp > most {
		return api.GridBlock{}, api.ErrArg
	}
	raw, _ := s.d.Read(placeOf(r.Address), 4)
	get := func(at int) int { return int(binary.LittleEndian.Uint32(raw[at:])) }
	b := api.GridBlock{Kind: get(16), Ref: ref(get(20), get(24))}
	for i := range min(get(28), 16) {
		b.Refs = append(b.Refs, ref(get(36+8*i), get(40+8*i)))
	}
	b.Body = bytes.Clone(raw[164:][:min(get(32), 860)])
	if b.Ref != r || !mayBe(b) || !bytes.Equal(laid(b), raw) {
		s.want(r)
		return api.GridBlock{}, api.ErrFaulty
	}
	return b, api.OK
}

// index is what the index block says.
func (s *scene) index(root api.Ref) (refs []api.Ref, keys []string, e api.Errno) {
	b, e := s.read(root)
	if e != api.OK {
		return nil, nil, e
	}
	keys, is := parsedKeys(string(b.Body))
	if b.Kind != 2 || !is || len(keys) != len(b.Refs) {
		return nil, nil, api.ErrFaulty
	}
	return b.Refs, keys, api.OK
}

// data is what a data block has.
func (s *scene) data(r api.Ref) ([]item, api.Errno) {
	b, e := s.read(r)
	if e != api.OK {
		return nil, e
	}
	l, is := parsed(string(b.Body))
	if b.Kind != 1 || len(b.Refs) > 0 || !is {
		return nil, api.ErrFaulty
	}
	return l, api.OK
}

// get is what Get must tell.
func (s *scene) get(root api.Ref, key string) (item, api.Errno) {
	refs, keys, e := s.index(root)
	if e != api.OK {
		return item{}, e
	}
	asked := -1
	for i, first := range keys {
		if first <= key {
			asked = i
		}
	}
	if asked < 0 {
		return item{}, api.ErrMissing
	}
	l, e := s.data(refs[asked])
	for _, p := range l {
		if p.key == key {
			return p, api.OK
		}
	}
	if e == api.OK {
		e = api.ErrMissing
	}
	return item{}, e
}

// between is what Between must tell.
func (s *scene) between(root api.Ref, from, to string) ([]item, api.Errno) {
	refs, keys, e := s.index(root)
	if e != api.OK {
		return nil, e
	}
	var told []item
	for i, r := range refs {
		if to != "" && keys[i] >= to || i+1 < len(keys) && keys[i+1] <= from {
			continue
		}
		l, e := s.data(r)
		if e != api.OK {
			return nil, e
		}
		for _, p := range l {
			if p.key >= from && (to == "" || p.key < to) {
				told = append(told, p)
			}
		}
	}
	return told, api.OK
}

// drop is what Drop must tell.
func (s *scene) drop(root api.Ref) api.Errno {
	refs, _, e := s.index(root)
	if e != api.OK {
		return e
	}
	for _, r := range append([]api.Ref{root}, refs...) {
		if r.Address > len(s.hows) {
			return api.ErrRange
		}
		if s.hows[r.Address-1] != taken {
			return api.ErrState
		}
		s.hows[r.Address-1] = letGo
	}
	return api.OK
}

// wantGet wants Get to tell what it must.
func (s *scene) wantGet(t testing.TB, what string, r api.Run, key string) {
	t.Helper()
	if p, e := s.get(r.Root, key); e != api.OK {
		refuseGet(t, what, s.g, r, key, e)
	} else {
		wantGet(t, what, s.g, r, p)
	}
	s.check(t, what)
}

// wantBetween wants Between to tell what it must.
func (s *scene) wantBetween(t testing.TB, what string, r api.Run, from, to string) {
	t.Helper()
	if l, e := s.between(r.Root, from, to); e != api.OK {
		refuseBetween(t, what, s.g, r, from, to, e)
	} else {
		wantBetween(t, what, s.g, r, from, to, l)
	}
	s.check(t, what)
}

// wantCalls wants all calls that read a table to tell what they must, of some keys.
func (s *scene) wantCalls(t testing.TB, what string, r api.Run, keys ...string) {
	t.Helper()
	for _, key := range keys {
		s.wantGet(t, what, r, key)
		s.wantBetween(t, what, r, key, "")
		s.wantBetween(t, what, r, "", key)
		s.wantBetween(t, what, r, key, key)
	}
	if l, e := s.between(r.Root, "", ""); e != api.OK {
		refuseAll(t, what, s.g, r, e)
	} else {
		wantAll(t, what, s.g, r, l)
	}
	if refs, _, e := s.index(r.Root); e != api.OK {
		refuseBlocks(t, what, s.g, r, e)
	} else {
		wantBlocks(t, what, s.g, r, append([]api.Ref{r.Root}, refs...)...)
	}
	s.check(t, what)
}

// wantDrop wants Drop to tell and to do what it must.
func (s *scene) wantDrop(t testing.TB, what string, r api.Run) {
	t.Helper()
	e := s.drop(r.Root)
	want(t, what+": Drop", table.Drop(s.g, r), e)
	s.check(t, what)
}

// near are keys about some: each of them, the next one behind it, its beginning, and one ahead of it.
func near(keys ...string) []string {
	var l []string
	for _, key := range keys {
		cut := key[:len(key)-1]
		l = append(l, key, key+"\x00", cut)
		if last := key[len(key)-1]; last > 0 {
			l = append(l, cut+string([]byte{last - 1}), cut+string([]byte{last - 1})+"\xff")
		}
	}
	return l
}

// strange are keys that no pair may have.
func strange() []string {
	return []string{"", strings.Repeat("\x00", 33), strings.Repeat("b", 33), strings.Repeat("\xff", 33), strings.Repeat("a", 4000)}
}

// keysOf are the keys of pairs.
func keysOf(l []item) []string {
	var keys []string
	for _, p := range l {
		keys = append(keys, p.key)
	}
	return keys
}
