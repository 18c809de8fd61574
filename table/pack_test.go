package table_test

import (
	"bytes"
	"fmt"
	"slices"
	"strings"
	"testing"

	"exchequer/api"
	"exchequer/table"
)

// wantPack wants Pack to tell these bodies, and Unpack to tell of each of them its pairs again.
func wantPack(t testing.TB, what string, l []item, bodies []string) {
	t.Helper()
	got, e := table.Pack(pairs(l))
	var told []string
	var again []item
	for _, body := range got {
		told = append(told, string(body))
		x, e := table.Unpack(body)
		want(t, what+": Unpack", e, api.OK)
		again = append(again, items(x)...)
	}
	if e != api.OK || !slices.Equal(told, bodies) {
		t.Errorf("%s: Pack: %q, %v, want %q", what, told, e, bodies)
	}
	if !slices.Equal(again, l) {
		t.Errorf("%s: unpacked: %v, want %v", what, again, l)
	}
}

func refusePack(t testing.TB, what string, l []api.Pair) {
	t.Helper()
	if got, e := table.Pack(l); e != api.ErrArg || len(got) != 0 {
		t.Errorf("%s: Pack: %q, %v, want ErrArg", what, got, e)
	}
}

func wantUnpack(t testing.TB, what, body string, l ...item) {
	t.Helper()
	got, e := table.Unpack([]byte(body))
	wantPairs(t, what+": Unpack", got, e, l, api.OK)
}

func refuseUnpack(t testing.TB, what, body string) {
	t.Helper()
	got, e := table.Unpack([]byte(body))
	wantPairs(t, fmt.Sprintf("%s: Unpack of %q", what, body), got, e, nil, api.ErrFaulty)
}

// unpackAsSaid wants Unpack to tell what the chapter's words tell.
func unpackAsSaid(t testing.TB, what, body string) {
	t.Helper()
	if l, is := parsed(body); is {
		wantUnpack(t, what, body, l...)
	} else {
		refuseUnpack(t, what, body)
	}
}

// P13.1: how the bytes stand, written out.
func TestPackBytes(t *testing.T) {
	wantPack(t, "few", []item{{key: "a", value: "1"}, {key: "b", gone: true}, {key: "bcd"}, {key: "c", value: "\xff\x00"}},
		[]string{"\x01a\x011" + "\x01b\xff" + "\x03bcd\x00" + "\x01c\x02\xff\x00"})
	wantPack(t, "the least", []item{{key: "\x00"}}, []string{"\x01\x00\x00"})
	wantPack(t, "the least that is Gone", []item{{key: "\x00", gone: true}}, []string{"\x01\x00\xff"})
	k, v := strings.Repeat("k", 32), strings.Repeat("v", 128)
	wantPack(t, "the greatest", []item{{key: k, value: v}}, []string{"\x20" + k + "\x80" + v})
	l := heavy(6)
	wantPack(t, "six heavy ones", l, []string{l[0].bytes() + l[1].bytes() + l[2].bytes() + l[3].bytes() + l[4].bytes(), l[5].bytes()})
}

// P13.1: tables of one, of a few and of 64 pairs, of one data block and of many.
func TestPack(t *testing.T) {
	for what, l := range tables() {
		wantPack(t, what, l, packed(l))
	}
	for n := 1; n <= 64; n++ {
		for seed := range 4 {
			l := mixed(n, seed)
			wantPack(t, fmt.Sprint(n, " mixed"), l, packed(l))
		}
	}
}

// P13.1: a pair begins a new block just where the body would have more than 860 bytes with it.
func TestPackAtTheBound(t *testing.T) {
	for size := 3; size <= 162; size++ {
		for _, gone := range []bool{false, true} {
			last := item{key: strings.Repeat("z", max(1, min(32, size-2))), gone: gone}
			if !gone {
				last.value = strings.Repeat("v", size-2-len(last.key))
			} else if size > 34 {
				continue
			}
			if len(last.bytes()) != size {
				t.Fatalf("%v has not %d bytes", last, size)
			}
			for _, ahead := range [][]item{heavy(5), filled(860 - size), filled(861 - size), filled(859 - size)} {
				l := append(slices.Clone(ahead), last)
				body := packed(ahead)[0]
				wanted := []string{body + last.bytes()}
				if len(body)+size > 860 {
					wanted = []string{body, last.bytes()}
				}
				wantPack(t, fmt.Sprint(len(body), " and ", size), l, wanted)
			}
		}
	}
	l := filled(860)
	wantPack(t, "860 bytes", l, []string{packed(l)[0]})
	if x := len(packed(l)[0]); x != 860 {
		t.Errorf("a body has %d bytes", x)
	}
	// Behind a block that has just 860 bytes the next one begins anew.
	more := append(slices.Clone(l), item{key: "z"}, item{key: "zz", value: "v"})
	wantPack(t, "behind 860 bytes", more, []string{packed(l)[0], more[len(l)].bytes() + more[len(l)+1].bytes()})
}

// filled are pairs of one body of so many bytes, at least 650.
func filled(size int) []item {
	l := heavy(4)
	left := size - 4*162
	for left > 0 {
		n := min(left, 162)
		if left-n == 1 || left-n == 2 {
			n -= 3
		}
		p := item{key: "1" + string(rune('a'+len(l)))}
		if n < 4 {
			p.key = "2"
		}
		p.value = strings.Repeat("v", min(128, n-2-len(p.key)))
		p.key += strings.Repeat("k", n-2-len(p.key)-len(p.value))
		l, left = append(l, p), left-n
	}
	return l
}

// P13.1: no pair, 64 pairs and 65.
func TestPackOfTooMany(t *testing.T) {
	refusePack(t, "nil", nil)
	refusePack(t, "no pair", []api.Pair{})
	refusePack(t, "no pair, with spare room", pairs(heavy(3))[:0])
	for _, n := range []int{65, 66, 85} {
		refusePack(t, fmt.Sprint(n), pairs(light(n)))
		refusePack(t, fmt.Sprint(n, " heavy"), pairs(heavy(n)))
	}
	refusePack(t, "3000", pairs(heavy(3000)))
	wantPack(t, "64", light(64), packed(light(64)))
	if got, e := table.Pack(pairs(heavy(65))[:64]); e != api.OK || len(got) != 13 {
		t.Errorf("64 with spare room: %d bodies, %v", len(got), e)
	}
}

// P13.1: a pair that may not be, at each place of tables.
func TestPackOfWrongPairs(t *testing.T) {
	for _, n := range []int{1, 2, 6, 64} {
		for at := range n {
			for what, wrong := range map[string]api.Pair{
				"a key of 33 bytes":    {Key: []byte(heavy(n)[at].key + "\x00")},
				"a value of 129 bytes": {Key: []byte(heavy(n)[at].key), Value: make([]byte, 129)},
				"a value of 255 bytes": {Key: []byte(heavy(n)[at].key), Value: make([]byte, 255)},
				"a value of 256 bytes": {Key: []byte(heavy(n)[at].key), Value: make([]byte, 256)},
				"Gone with a value":    {Key: []byte(heavy(n)[at].key), Value: []byte{0}, Gone: true},
			} {
				l := pairs(heavy(n))
				l[at] = wrong
				refusePack(t, fmt.Sprint(what, " at ", at, " of ", n), l)
			}
		}
		// A key of no bytes can stand first alone, where pairs are sorted.
		l := pairs(heavy(n))
		l[0].Key = nil
		refusePack(t, "a key of no bytes", l)
		l[0].Key = []byte{}
		refusePack(t, "a key of no bytes", l)
	}
	l := pairs([]item{{key: "a"}, {key: strings.Repeat("b", 256+1)}})
	refusePack(t, "a key of 257 bytes", l)
}

// P13.1: pairs that are not sorted: two of one key, or two out of order, at each place.
func TestPackOfUnsorted(t *testing.T) {
	for _, n := range []int{2, 3, 6, 64} {
		for at := range n - 1 {
			l := pairs(heavy(n))
			l[at], l[at+1] = l[at+1], l[at]
			refusePack(t, fmt.Sprint("swapped at ", at, " of ", n), l)
			l = pairs(heavy(n))
			l[at+1].Key = bytes.Clone(l[at].Key)
			refusePack(t, fmt.Sprint("doubled at ", at, " of ", n), l)
			l[at+1].Value, l[at+1].Gone = nil, true
			refusePack(t, fmt.Sprint("doubled, Gone, at ", at, " of ", n), l)
		}
	}
	refusePack(t, "ab a", pairs([]item{{key: "ab"}, {key: "a"}}))
	refusePack(t, "high a", pairs([]item{{key: "\x80"}, {key: "a"}}))
}

// P13.1: how a body is read, written out.
func TestUnpackBytes(t *testing.T) {
	wantUnpack(t, "few", "\x01a\x011"+"\x01b\xff"+"\x03bcd\x00"+"\x01c\x02\xff\x00",
		item{key: "a", value: "1"}, item{key: "b", gone: true}, item{key: "bcd"}, item{key: "c", value: "\xff\x00"})
	wantUnpack(t, "the least", "\x01\x00\x00", item{key: "\x00"})
	// What looks like a value of 255 bytes is none: the pair is Gone, and another one stands behind it.
	wantUnpack(t, "Gone, and another one", "\x01a\xff\x01b\x01x", item{key: "a", gone: true}, item{key: "b", value: "x"})
	refuseUnpack(t, "255 bytes behind Gone", "\x01a\xff"+strings.Repeat("v", 255))
	refuseUnpack(t, "nothing", "")
	if l, e := table.Unpack(nil); e != api.ErrFaulty || len(l) != 0 {
		t.Errorf("Unpack(nil): %v, %v", l, e)
	}
	refuseUnpack(t, "noughts", strings.Repeat("\x00", 860))
	refuseUnpack(t, "a nought behind", "\x01a\x011\x00")
}

// P13.1: bytes that are cut off anywhere: what ends behind a pair is a body, nothing else is; and with one byte more, whatever it is, nothing is.
func TestUnpackCutOff(t *testing.T) {
	for what, l := range tables() {
		rest := l
		for _, body := range packed(l) {
			var ends []int
			for end := 0; end < len(body); {
				end += len(rest[len(ends)].bytes())
				ends = append(ends, end)
			}
			for cut := range len(body) + 1 {
				if i := slices.Index(ends, cut); i >= 0 {
					wantUnpack(t, what, body[:cut], rest[:i+1]...)
				} else {
					refuseUnpack(t, what, body[:cut])
				}
			}
			rest = rest[len(ends):]
			for _, more := range []byte{0, 1, 2, 32, 33, 128, 254, 255} {
				refuseUnpack(t, what, body+string([]byte{more}))
			}
		}
	}
	refuseUnpack(t, "a key alone", "\x01a")
	refuseUnpack(t, "a count alone", "\x01")
}

// P13.1: keys of each number of bytes that a byte can say, and values likewise, alone, behind another pair and ahead of one.
func TestUnpackOfAllSizes(t *testing.T) {
	for n := range 256 {
		k, v := strings.Repeat("k", n), strings.Repeat("v", n)
		for _, c := range []struct {
			ahead, behind []item
		}{{nil, nil}, {[]item{{key: "a", value: "x"}}, nil}, {nil, []item{{key: "z", value: "y"}}}, {[]item{{key: "a", gone: true}}, []item{{key: "z"}}}} {
			front, back := strings.Join(packed(c.ahead), ""), strings.Join(packed(c.behind), "")
			for _, p := range []item{{key: k}, {key: k, value: "x"}, {key: k, gone: true}} {
				if body := front + p.bytes() + back; n >= 1 && n <= 32 {
					wantUnpack(t, "a key", body, slices.Concat(c.ahead, []item{p}, c.behind)...)
				} else {
					refuseUnpack(t, "a key", body)
				}
			}
			p := item{key: "k", value: v}
			if body := front + p.bytes() + back; n <= 128 {
				wantUnpack(t, "a value", body, slices.Concat(c.ahead, []item{p}, c.behind)...)
			} else {
				refuseUnpack(t, "a value", body)
			}
		}
	}
}

// P13.1: pairs that are not sorted, at each place of a body.
func TestUnpackOfUnsorted(t *testing.T) {
	all := mixed(20, 2)
	for at := range len(all) - 1 {
		l := slices.Clone(all)
		for i := range l {
			l[i].value = l[i].value[:min(5, len(l[i].value))]
		}
		join := func() string {
			body := ""
			for _, p := range l {
				body += p.bytes()
			}
			return body
		}
		wantUnpack(t, "sorted", join(), l...)
		l[at], l[at+1] = l[at+1], l[at]
		refuseUnpack(t, "swapped", join())
		l[at+1] = l[at]
		refuseUnpack(t, "doubled", join())
	}
	refuseUnpack(t, "a key and its beginning", "\x02ab\x00\x01a\x00")
	wantUnpack(t, "a key behind its beginning", "\x01a\x00\x02ab\x00", item{key: "a"}, item{key: "ab"})
}

// P13.1: a body of 860 bytes is one, one of 861 is none, as no data block has it; how many pairs there are does not count.
func TestUnpackAtTheBound(t *testing.T) {
	for size := 855; size <= 860; size++ {
		l := filled(size)
		wantUnpack(t, fmt.Sprint(size), packed(l)[0], l...)
	}
	refuseUnpack(t, "861 bytes", strings.Join(packed(filled(861)), ""))
	refuseUnpack(t, "162 more", packed(filled(860))[0]+item{key: "z"}.bytes())
	refuseUnpack(t, "64 heavy ones", strings.Join(packed(heavy(64)), ""))
	var many []item
	body := ""
	for i := range 215 {
		p := item{key: string([]byte{byte(i / 200), byte(i)}), gone: i%2 == 0}
		if i < 200 {
			p.key = "\x00" + string([]byte{byte(i)})
		}
		if body += p.bytes(); len(many) == 64 || len(many) == 65 {
			wantUnpack(t, "about 65 pairs", body, append(many, p)...)
		}
		many = append(many, p)
	}
	wantUnpack(t, "215 pairs", body, many...)
}

// P13.1: all bodies of up to six bytes of some that matter, and bodies with one byte set to each value, against the chapter's words.
func TestUnpackOfAnyBytes(t *testing.T) {
	letters := "\x00\x01\x02\x03!\xff"
	var grow func(body string)
	grow = func(body string) {
		unpackAsSaid(t, "few bytes", body)
		if len(body) < 6 {
			for i := range len(letters) {
				grow(body + letters[i:i+1])
			}
		}
	}
	grow("")
	for _, l := range [][]item{light(20), mixed(5, 3), edgy()[:12], heavy(2)} {
		body := []byte(packed(l)[0])
		for at := range body {
			was := body[at]
			for x := range 256 {
				body[at] = byte(x)
				unpackAsSaid(t, "a byte is set", string(body))
			}
			body[at] = was
		}
	}
}

// FuzzUnpack looks for bytes of which Unpack tells other than the chapter's words.
func FuzzUnpack(f *testing.F) {
	for _, l := range tables() {
		f.Add([]byte(packed(l)[0]))
	}
	f.Add([]byte{})
	f.Add([]byte("\x01a\xff\x01b\x01x\x02bc\x00"))
	f.Fuzz(func(t *testing.T, body []byte) { unpackAsSaid(t, "any bytes", string(body)) })
}
