// Package tlog (layer 8): hashes of leaves and nodes as RFC 6962 has them, where each stored hash lies, the tree and its root. k is the strength: 1 to 31 keeps so many bytes of SHA-256, zeros behind; every other number keeps all. See DOC.md, chapter 8.
package tlog

import (
	"slices"

	"ledger/api"
	"ledger/sha"
)

// What stands ahead of the bytes that are hashed, so that no leaf can be taken for a node.
const (
	leafMark = 0
	nodeMark = 1
)

// hasher: how the hashes of one tree are made; each function knows the tree's strength.
type hasher struct {
	empty func() api.Hash
	leaf  func(data []byte) api.Hash
	node  func(left, right api.Hash) api.Hash
}

func hasherOf(k int) hasher {
	strength := strengthOf(k)
	hash := func(data []byte) api.Hash {
		h := sha.Sum256(data)
		clear(h[strength:])
		return h
	}
	return hasher{
		empty: func() api.Hash { return hash(nil) },
		leaf: func(data []byte) api.Hash {
			return hash(slices.Concat([]byte{leafMark}, data))
		},
		node: func(left, right api.Hash) api.Hash {
			return hash(slices.Concat([]byte{nodeMark}, left[:], right[:]))
		},
	}
}

// strengthOf: how many bytes of a hash are kept.
func strengthOf(k int) int {
	const whole = len(api.Hash{})
	if k < 1 || k > whole {
		return whole
	}
	return k
}

// onto: the node hash, its two in the order in which a fold comes by them.
func (h hasher) onto(right, left api.Hash) api.Hash { return h.node(left, right) }

// top: the root of the tree that these peaks make up.
func (h hasher) top(peaks []api.Hash) api.Hash {
	if len(peaks) == 0 {
		return h.empty()
	}
	return fold(peaks, h.onto)
}

// fold: of one hash or more; join is handed what there is and the next hash to its left.
func fold(peaks []api.Hash, join func(right, left api.Hash) api.Hash) api.Hash {
	last := len(peaks) - 1
	there := peaks[last]
	for _, left := range slices.Backward(peaks[:last]) {
		there = join(there, left)
	}
	return there
}

// LeafHash: of a zero byte and the data.
func LeafHash(k int, data []byte) api.Hash { return hasherOf(k).leaf(data) }

// NodeHash: of a byte 1, left and right.
func NodeHash(k int, left, right api.Hash) api.Hash { return hasherOf(k).node(left, right) }

// EmptyHash: the root of no records: the hash of nothing.
func EmptyHash(k int) api.Hash { return hasherOf(k).empty() }

// Fold: the root of whole subtrees with these hashes, from left to right: the last two are joined, again and again, from the right; EmptyHash of none.
func Fold(k int, peaks []api.Hash) api.Hash { return hasherOf(k).top(peaks) }
