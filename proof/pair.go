package proof

import (
	"bytes"
	"slices"

	"ledger/api"
	"ledger/sha"
	"ledger/tlog"
)

// What stands ahead of the bytes that tlog hashes.
const (
	leafMark = 0
	nodeMark = 1
)

// Pair: two byte strings.
type Pair struct {
	A, B []byte
}

// Collides: are the two unlike, and are their hashes of strength k the same?
func Collides(k int, p Pair) bool {
	kept := tlog.New(k).Strength()
	a, b := sha.Sum256(p.A), sha.Sum256(p.B)
	return !bytes.Equal(p.A, p.B) && bytes.Equal(a[:kept], b[:kept])
}

// LeafBytes: what LeafHash takes the SHA-256 of.
func LeafBytes(data []byte) []byte { return slices.Concat([]byte{leafMark}, data) }

// NodeBytes: what NodeHash takes the SHA-256 of.
func NodeBytes(left, right api.Hash) []byte {
	return slices.Concat([]byte{nodeMark}, left[:], right[:])
}

// CollideRecords: two unlike records at one id of one tree, each with a proof that leads to one root: a pair that collides. ErrLong, ErrArg, ErrProofLength, ErrProof (the two lead to unlike roots), ErrNoPair (the records are the same).
func CollideRecords(k int, n, i int64, a []byte, pa []api.Hash, b []byte, pb []api.Hash) (Pair, api.Errno) {
	if len(a) > api.MaxRecord || len(b) > api.MaxRecord {
		return Pair{}, api.ErrLong
	}
	if !recordGoal(i).within(n) {
		return Pair{}, api.ErrArg
	}
	na, okA := climbRecord(k, pa, n, i, tlog.LeafHash(k, a))
	nb, okB := climbRecord(k, pb, n, i, tlog.LeafHash(k, b))
	switch {
	case !okA || !okB:
		return Pair{}, api.ErrProofLength
	case top(na).hash() != top(nb).hash():
		return Pair{}, api.ErrProof
	case bytes.Equal(a, b):
		return Pair{}, api.ErrNoPair
	}
	x, y := meeting(na, nb)
	if p, ok := childPair(x, y); ok {
		return p, api.OK
	}
	return Pair{LeafBytes(a), LeafBytes(b)}, api.OK
}

// meeting: the lowest nodes at which two climbs that lead to one root have the same hash.
func meeting(a, b []node) (node, node) {
	at := 0
	for a[at].hash() != b[at].hash() {
		at++
	}
	return a[at], b[at]
}

// CollideTrees: two unlike roots of m, each with a proof from m to n that checks with the one root of n: a pair that collides. ErrArg, ErrProofLength, ErrProof, ErrNoPair (the two roots of m are the same).
func CollideTrees(k int, n int64, root api.Hash, m int64, a api.Hash, pa []api.Hash, b api.Hash, pb []api.Hash) (Pair, api.Errno) {
	if !treeGoal(m).within(n) {
		return Pair{}, api.ErrArg
	}
	grownA, beforeA, okA := climbTree(k, pa, n, m, a)
	grownB, beforeB, okB := climbTree(k, pb, n, m, b)
	switch {
	case !okA || !okB:
		return Pair{}, api.ErrProofLength
	case top(grownA).hash() != root || top(beforeA).hash() != a || top(grownB).hash() != root || top(beforeB).hash() != b:
		return Pair{}, api.ErrProof
	case a == b:
		return Pair{}, api.ErrNoPair
	}
	p, _ := parting(grownA, grownB)
	return p, api.OK
}

// parting: goes down two climbs that lead to one root, as long as both have computed a node above the same records, and answers what the first two were computed of that have unlike children; false, if there are none.
func parting(a, b []node) (Pair, bool) {
	for down := 1; down <= min(len(a), len(b)); down++ {
		x, y := a[len(a)-down], b[len(b)-down]
		p, ok := childPair(x, y)
		if !ok || x.over() != y.over() {
			break
		}
		if !bytes.Equal(p.A, p.B) {
			return p, true
		}
	}
	return Pair{}, false
}

// childPair: what the hashes of two nodes were computed of; false, if one of them was given.
func childPair(x, y node) (Pair, bool) {
	a, okA := childBytes(x)
	b, okB := childBytes(y)
	if !okA || !okB {
		return Pair{}, false
	}
	return Pair{a, b}, true
}
