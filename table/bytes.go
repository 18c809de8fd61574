package table

import (
	"exchequer/api"
	"exchequer/memtable"
)

// goneSize stands where the number of a value's bytes does, of a pair that is Gone: no value has as many.
const goneSize = 255

// pack tells the bodies of data blocks of pairs that may be.
func pack(l []api.Pair) [][]byte {
	var full [][]byte
	var last []byte
	add := func(p []byte) {
		if len(last)+len(p) > api.MaxBlockBody {
			full = append(full, last)
			// A new one: what is full is handed out, and must not be written again.
			last = nil
		}
		last = append(last, p...)
	}
	for _, p := range l {
		add(pairBytes(p))
	}
	return append(full, last)
}

// pairBytes tells the bytes of a pair that may be.
func pairBytes(p api.Pair) []byte {
	b := layText(nil, p.Key)
	if p.Gone {
		return append(b, goneSize)
	}
	return layText(b, p.Value)
}

// layText lays how many bytes a text has, in one byte, and it.
func layText(b, text []byte) []byte {
	return append(append(b, byte(len(text))), text...)
}

// takeAll tells the pairs that a body has, one behind the other, and whether they are all that it has, such as may be, and sorted.
func takeAll(body []byte, take func([]byte) (api.Pair, []byte, bool)) ([]api.Pair, bool) {
	var l []api.Pair
	for len(body) > 0 {
		p, rest, whole := take(body)
		if !whole || memtable.Check(p) != api.OK {
			return nil, false
		}
		l, body = append(l, p), rest
	}
	return l, memtable.Sorted(l)
}

// The functions that follow tell what stands at the front of bytes, of which there is at least one, those behind it, and whether it is whole.

// takePair takes a pair, as a data block has it.
func takePair(b []byte) (api.Pair, []byte, bool) {
	key, rest, whole := takeText(b)
	if !whole || len(rest) == 0 {
		return api.Pair{}, nil, false
	}
	if rest[0] == goneSize {
		return api.Pair{Key: key, Gone: true}, rest[1:], true
	}
	value, rest, whole := takeText(rest)
	return api.Pair{Key: key, Value: value}, rest, whole
}

// takeFirst takes a first key, as an index block has it. It is told as a pair without a value: the same holds of it as of a pair's key.
func takeFirst(b []byte) (api.Pair, []byte, bool) {
	key, rest, whole := takeText(b)
	return api.Pair{Key: key}, rest, whole
}

// takeText takes what layText laid; the text is told in new memory.
func takeText(b []byte) (text, rest []byte, whole bool) {
	end := 1 + int(b[0])
	if end > len(b) {
		return nil, nil, false
	}
	return append([]byte(nil), b[1:end]...), b[end:], true
}
