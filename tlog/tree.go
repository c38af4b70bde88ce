package tlog

import (
	"slices"

	"ledger/api"
)

// Tree: stored hashes that grow.
type Tree struct {
	strength int
	hasher   hasher
	stored   []api.Hash
}

// New: a tree without records.
func New(k int) *Tree {
	return &Tree{strength: strengthOf(k), hasher: hasherOf(k)}
}

// Load: a tree with copies of these stored hashes. ErrLong, ErrStored, ErrInner.
func Load(k int, stored []api.Hash) (*Tree, api.Errno) {
	if _, e := recordsOf(stored); e != api.OK {
		return nil, e
	}
	t := New(k)
	if e := t.hasher.check(stored); e != api.OK {
		return nil, e
	}
	t.stored = slices.Clone(stored)
	return t, api.OK
}

// Add: a record with this leaf hash joins; its id. ErrLong and 0, if there are 65536.
func (t *Tree) Add(leaf api.Hash) (int64, api.Errno) {
	id := t.Size()
	if id == maxHeld {
		return 0, api.ErrLong
	}
	t.stored = t.hasher.grow(t.stored, leaf)
	return id, api.OK
}

// Size: how many records.
func (t *Tree) Size() int64 {
	n, _ := recordsWithin(int64(len(t.stored)))
	return n
}

// Strength: k, as it counts: 1 to 32.
func (t *Tree) Strength() int { return t.strength }

// Root: of the first n records. ErrArg.
func (t *Tree) Root(n int64) (api.Hash, api.Errno) {
	return t.hasher.root(t.stored, t.Size(), n)
}

// Hashes: the stored hashes at these places, in the list's order. ErrLong above 65536 places, ErrArg (a place that isn't there).
func (t *Tree) Hashes(places []int64) ([]api.Hash, api.Errno) {
	if len(places) > maxHeld {
		return nil, api.ErrLong
	}
	for _, place := range places {
		if place < 0 || place >= int64(len(t.stored)) {
			return nil, api.ErrArg
		}
	}
	return hashesAt(t.stored, places), api.OK
}

// Stored: all, new memory.
func (t *Tree) Stored() []api.Hash { return slices.Clone(t.stored) }

// Back: the tree has its first n records alone. ErrArg and nothing done, if n is below 0 or above Size.
func (t *Tree) Back(n int64) api.Errno {
	if n < 0 || n > t.Size() {
		return api.ErrArg
	}
	t.stored = t.stored[:countOf(n)]
	return api.OK
}
