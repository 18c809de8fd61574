package forest

import (
	"slices"

	"exchequer/api"
)

// maxPart is how many tables a manifest block has: it may name the next one, too.
const maxPart = api.MaxRefs - 1

// A root's body: the op's bytes, and one that is made of what is there.
const (
	opSize      = 4
	hasManifest = 1
	hasExtra    = 2
)

// part is what a block has: what it names beside the next one of its chain, and its body.
type part struct {
	refs []api.Ref
	body []byte
}

// names are the blocks that a root names: the first ones of the manifest and of the extra bytes are lists of one, or of none.
type names struct {
	free            api.Ref
	manifest, extra []api.Ref
}

// rootPart is what the root has of an op that names these.
func rootPart(op int, x names) part {
	has := byte(0)
	if len(x.manifest) > 0 {
		has |= hasManifest
	}
	if len(x.extra) > 0 {
		has |= hasExtra
	}
	return part{
		refs: slices.Concat([]api.Ref{x.free}, x.manifest, x.extra),
		body: []byte{byte(op), byte(op >> 8), byte(op >> 16), byte(op >> 24), has},
	}
}

// extraParts are the extra bytes in parts.
func extraParts(extra []byte) []part {
	var parts []part
	for body := range slices.Chunk(extra, api.MaxBlockBody) {
		parts = append(parts, part{body: body})
	}
	return parts
}

// manifestParts are the tables of all trees in parts.
func manifestParts(s *state) []part {
	var parts []part
	for i := range s.trees {
		for at, l := range s.trees[i].levels {
			for _, r := range l {
				parts = addTable(parts, r.Root, tableBytes(placed{i, at, r}))
			}
		}
	}
	return parts
}

// addTable puts a table into the last part, or into a new one, if that has no room for it.
func addTable(parts []part, root api.Ref, b []byte) []part {
	if n := len(parts); n > 0 {
		p := &parts[n-1]
		if len(p.refs) < maxPart && len(p.body)+len(b) <= api.MaxBlockBody {
			p.refs, p.body = append(p.refs, root), append(p.body, b...)
			return parts
		}
	}
	return append(parts, part{refs: []api.Ref{root}, body: b})
}

// placed is a table, and where it stands.
type placed struct {
	tree, level int
	run         api.Run
}

// tableBytes tells a table as a manifest block's body has it; its Root is among the Refs.
func tableBytes(p placed) []byte {
	b := []byte{byte(p.tree), byte(p.level), byte(p.run.Count)}
	return layKey(layKey(b, p.run.First), p.run.Last)
}

// takeTable takes the table that stands at the front of bytes. It tells those behind it, too, and whether it is whole, and of a tree and a level that are there.
func takeTable(b []byte) (p placed, rest []byte, whole bool) {
	if len(b) < 3 {
		return placed{}, nil, false
	}
	p = placed{tree: int(b[0]), level: int(b[1]), run: api.Run{Count: int(b[2])}}
	p.run.First, rest, whole = takeKey(b[3:])
	if whole {
		p.run.Last, rest, whole = takeKey(rest)
	}
	return p, rest, whole && p.tree < api.Trees && p.level < api.MaxLevels
}

// layKey lays how many bytes a key has, in one byte, and it.
func layKey(b, key []byte) []byte {
	return append(append(b, byte(len(key))), key...)
}

// takeKey takes what layKey laid; the key is told in new memory.
func takeKey(b []byte) (key, rest []byte, whole bool) {
	if len(b) == 0 || len(b) <= int(b[0]) {
		return nil, nil, false
	}
	end := 1 + int(b[0])
	return slices.Clone(b[1:end]), b[end:], true
}
