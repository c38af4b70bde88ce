package proof

import (
	"ledger/api"
	"ledger/tlog"
)

// node: one of a tree that a proof speaks of.
type node interface {
	over() span // the records that it stands above
	hash() api.Hash
}

// given: a node of which nothing but its hash is known.
type given struct {
	records span
	value   api.Hash
}

func (g given) over() span { return g.records }

func (g given) hash() api.Hash { return g.value }

// joined: a node that was computed of its two children. What came out is kept, so that a climb computes each node once.
type joined struct {
	left, right node
	records     span
	value       api.Hash
}

func (j joined) over() span { return j.records }

func (j joined) hash() api.Hash { return j.value }

// join: the node above two that lie side by side, whichever of them is the left one.
func join(k int, a, b node) node {
	if b.over().from < a.over().from {
		a, b = b, a
	}
	return joined{
		left:    a,
		right:   b,
		records: span{a.over().from, b.over().to},
		value:   tlog.NodeHash(k, a.hash(), b.hash()),
	}
}

// childBytes: what the hash of a node was computed of; false, if it was given.
func childBytes(n node) ([]byte, bool) {
	switch n := n.(type) {
	case joined:
		return NodeBytes(n.left.hash(), n.right.hash()), true
	default:
		return nil, false
	}
}

// climb: the nodes from the first one up, each the one below it joined with the next of those beside the way.
func climb(k int, first node, beside []given) []node {
	nodes := []node{first}
	for _, b := range beside {
		nodes = append(nodes, join(k, nodes[len(nodes)-1], b))
	}
	return nodes
}

// top: the node at which a climb ends, the root.
func top(nodes []node) node { return nodes[len(nodes)-1] }

// lay: a proof's hashes as nodes over the spans of its way; false, if they are not as many.
func lay(p []api.Hash, way []span) ([]given, bool) {
	if len(p) != len(way) {
		return nil, false
	}
	nodes := make([]given, len(way))
	for j, s := range way {
		nodes[j] = given{s, p[j]}
	}
	return nodes, true
}

// climbRecord: the nodes from the leaf up to the root; false, if the proof has not the way's length.
func climbRecord(k int, p []api.Hash, n, i int64, leaf api.Hash) ([]node, bool) {
	beside, ok := lay(p, spans(n, recordGoal(i)))
	if !ok {
		return nil, false
	}
	return climb(k, given{span{i, i + 1}, leaf}, beside), true
}

// climbTree: the nodes from the seed up to the root of n, and those from the seed up to the root of m; false, if the proof has not the way's length.
func climbTree(k int, p []api.Hash, n, m int64, old api.Hash) (grown, before []node, ok bool) {
	beside, ok := lay(p, spans(n, treeGoal(m)))
	if !ok {
		return nil, nil, false
	}
	seed := given{span{0, m}, old}
	if len(beside) > 0 && beside[0].records.to == m {
		seed, beside = beside[0], beside[1:]
	}
	return climb(k, seed, beside), climb(k, seed, leftOf(seed, beside)), true
}

// leftOf: those of the nodes that lie to the left of the seed: they are the old tree's too, all others came later.
func leftOf(seed given, beside []given) []given {
	var left []given
	for _, b := range beside {
		if b.records.from < seed.records.from {
			left = append(left, b)
		}
	}
	return left
}

// ClimbRecord: the root to which a record proof leads. ErrArg, ErrProofLength.
func ClimbRecord(k int, p []api.Hash, n, i int64, leaf api.Hash) (api.Hash, api.Errno) {
	if !recordGoal(i).within(n) {
		return api.Hash{}, api.ErrArg
	}
	nodes, ok := climbRecord(k, p, n, i, leaf)
	if !ok {
		return api.Hash{}, api.ErrProofLength
	}
	return top(nodes).hash(), api.OK
}

// ClimbTree: the two roots to which a tree proof leads: of n and of m. ErrArg, ErrProofLength. (With m = n the proof is empty and the old root is the answer for both.)
func ClimbTree(k int, p []api.Hash, n, m int64, old api.Hash) (api.Hash, api.Hash, api.Errno) {
	if !treeGoal(m).within(n) {
		return api.Hash{}, api.Hash{}, api.ErrArg
	}
	grown, before, ok := climbTree(k, p, n, m, old)
	if !ok {
		return api.Hash{}, api.Hash{}, api.ErrProofLength
	}
	return top(grown).hash(), top(before).hash(), api.OK
}

// CheckRecord: ErrArg, ErrProofLength, ErrProof (it leads to another root); else OK.
func CheckRecord(k int, p []api.Hash, n int64, root api.Hash, i int64, leaf api.Hash) api.Errno {
	h, e := ClimbRecord(k, p, n, i, leaf)
	if e != api.OK {
		return e
	}
	if h != root {
		return api.ErrProof
	}
	return api.OK
}

// CheckTree: ErrArg, ErrProofLength, ErrProof (one of the roots is another); else OK.
func CheckTree(k int, p []api.Hash, n int64, root api.Hash, m int64, old api.Hash) api.Errno {
	grown, before, e := ClimbTree(k, p, n, m, old)
	if e != api.OK {
		return e
	}
	if grown != root || before != old {
		return api.ErrProof
	}
	return api.OK
}
