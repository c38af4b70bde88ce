package proof

import "ledger/api"

// Lift: from a proof that leaf i is in the tree of m with the root old, and a proof that the tree of n with the root root goes on from it: OK, the one proof that leads from leaf i to root in the tree of n, and an empty pair; or, where the two proofs give one node two hashes, ErrParts, no proof, and a pair that collides. ErrArg, ErrProofLength, ErrProof (one of the proofs doesn't check). With m = n the proof is the record proof itself.
func Lift(k int, m int64, old api.Hash, i int64, leaf api.Hash, record []api.Hash, n int64, root api.Hash, tree []api.Hash) ([]api.Hash, Pair, api.Errno) {
	if !recordGoal(i).within(m) || !treeGoal(m).within(n) {
		return nil, Pair{}, api.ErrArg
	}
	low, okRecord := climbRecord(k, record, m, i, leaf)
	grown, before, okTree := climbTree(k, tree, n, m, old)
	switch {
	case !okRecord || !okTree:
		return nil, Pair{}, api.ErrProofLength
	case top(low).hash() != old || top(grown).hash() != root || top(before).hash() != old:
		return nil, Pair{}, api.ErrProof
	}
	if p, parts := parting(low, before); parts {
		return nil, p, api.ErrParts
	}
	known := map[span]api.Hash{}
	learn(known, top(grown))
	learn(known, top(low)) // what both know they agree on, as they don't part
	lifted := walk(n, recordGoal(i), func(s span) api.Hash { return known[s] })
	return lifted, Pair{}, api.OK
}

// learn: notes the hash of a node, and of all that it was computed of, by the records that each stands above.
func learn(known map[span]api.Hash, n node) {
	known[n.over()] = n.hash()
	switch n := n.(type) {
	case joined:
		learn(known, n.left)
		learn(known, n.right)
	}
}
