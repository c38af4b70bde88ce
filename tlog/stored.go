package tlog

import "ledger/api"

// What is held in memory: so many records at most, and their count.
const (
	maxHeld   = 65536
	maxStored = 2*maxHeld - 1
)

// Build: the stored hashes of a tree with these leaves' hashes, in their order of place. ErrLong above 65536 leaves.
func Build(k int, leaves []api.Hash) ([]api.Hash, api.Errno) {
	if len(leaves) > maxHeld {
		return nil, api.ErrLong
	}
	h := hasherOf(k)
	stored := make([]api.Hash, 0, countOf(int64(len(leaves))))
	for _, leaf := range leaves {
		stored = h.grow(stored, leaf)
	}
	return stored, api.OK
}

// grow: lays down the leaf of the next record behind stored, and the nodes that are whole with it.
func (h hasher) grow(stored []api.Hash, leaf api.Hash) []api.Hash {
	stored = append(stored, leaf)
	for levelBehind(stored) > 0 {
		stored = append(stored, h.next(stored))
	}
	return stored
}

// levelBehind: of the place behind these hashes.
func levelBehind(stored []api.Hash) int {
	level, _, _ := SplitIndex(int64(len(stored)))
	return level
}

// next: the hash of the node whose place is the one behind these hashes; it is above level 0. Its right child was laid down last, and the left one ahead of all the hashes of the right one's subtree.
func (h hasher) next(stored []api.Hash) api.Hash {
	right := len(stored) - 1
	left := len(stored) - 1<<levelBehind(stored)
	return h.node(stored[left], stored[right])
}

// Check: ErrLong above 131071 hashes (those of 65536 records), ErrStored, ErrInner (one above the leaves isn't the NodeHash of its children); else OK.
func Check(k int, stored []api.Hash) api.Errno {
	if _, e := recordsOf(stored); e != api.OK {
		return e
	}
	return hasherOf(k).check(stored)
}

// recordsOf: how many records these hashes are of.
func recordsOf(stored []api.Hash) (int64, api.Errno) {
	if len(stored) > maxStored {
		return 0, api.ErrLong
	}
	return Records(int64(len(stored)))
}

func (h hasher) check(stored []api.Hash) api.Errno {
	for place := range stored {
		ahead := stored[:place:place]
		if levelBehind(ahead) > 0 && stored[place] != h.next(ahead) {
			return api.ErrInner
		}
	}
	return api.OK
}

// Root: of the first n records of stored hashes. ErrLong, ErrStored, ErrArg (n below 0 or above their records). Inner hashes are taken as they are.
func Root(k int, stored []api.Hash, n int64) (api.Hash, api.Errno) {
	size, e := recordsOf(stored)
	if e != api.OK {
		return api.Hash{}, e
	}
	return hasherOf(k).root(stored, size, n)
}

// root: of the first n of the records, size in all, that these hashes are of.
func (h hasher) root(stored []api.Hash, size, n int64) (api.Hash, api.Errno) {
	if n < 0 || n > size {
		return api.Hash{}, api.ErrArg
	}
	peaks, _ := Peaks(n)
	return h.top(hashesAt(stored, peaks)), api.OK
}

// hashesAt: copies, in the order of the places, all of which are there.
func hashesAt(stored []api.Hash, places []int64) []api.Hash {
	hashes := make([]api.Hash, len(places))
	for i, place := range places {
		hashes[i] = stored[place]
	}
	return hashes
}
