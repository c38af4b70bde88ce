package evidence

import (
	"slices"

	"ledger/api"
	"ledger/note"
	"ledger/proof"
)

// between: the step from the smaller of two final heads to the greater. (Of one size it checks, if the roots are the same and the link is empty.)
func between(a, b note.Head, link []api.Hash) step {
	if b.Size < a.Size {
		a, b = b, a
	}
	return step{a, b, link}
}

// judge: of two trails with unlike records, whose sessions' final heads the link goes between.
func judge(k int, a, b trail, link step) Verdict {
	inA, pair, parts := a.lifted(k, link)
	if parts {
		return Verdict{Kind: Collision, Pair: pair}
	}
	inB, pair, parts := b.lifted(k, link)
	if parts {
		return Verdict{Kind: Collision, Pair: pair}
	}
	return inOneTree(k, inA, inB)
}

// lifted: what the trail begins with, in the greater one of the final heads; or the pair of a lifting that parts.
func (t trail) lifted(k int, link step) (in claim, pair proof.Pair, parts bool) {
	c := t.first.claim
	for _, s := range slices.Concat(t.steps, []step{link}) {
		if c.head.Size == s.head.Size { // the link, where the session came as far by itself
			break
		}
		record, pair, e := proof.Lift(k, c.head.Size, c.head.Root, c.id, c.leaf(k), c.proof, s.head.Size, s.head.Root, s.proof)
		if e == api.ErrParts {
			return claim{}, pair, true
		}
		c.head, c.proof = s.head, record
	}
	return c, proof.Pair{}, false
}

// inOneTree: unlike records of one key, both in the tree of one head.
func inOneTree(k int, a, b claim) Verdict {
	if a.id == b.id {
		pair, _ := proof.CollideRecords(k, a.head.Size, a.id, []byte(a.record), a.proof, []byte(b.record), b.proof)
		return Verdict{Kind: Collision, Pair: pair}
	}
	if b.id < a.id {
		a, b = b, a
	}
	return Verdict{
		Kind: Twice,
		Head: a.head,
		I:    a.id,
		J:    b.id,
		A:    a.record,
		B:    b.record,
		PA:   slices.Clone(a.proof),
		PB:   slices.Clone(b.proof),
	}
}

// isCollision: and nothing else.
func (v Verdict) isCollision(k int) bool {
	noTree := v.Head == note.Head{} && v.I == 0 && v.J == 0
	noRecords := v.A == "" && v.B == "" && len(v.PA) == 0 && len(v.PB) == 0
	return noTree && noRecords && proof.Collides(k, v.Pair)
}

// isTwice: and nothing else.
func (v Verdict) isTwice(k int, path, version string) bool {
	noPair := len(v.Pair.A) == 0 && len(v.Pair.B) == 0
	a, b := claim{v.I, v.A, v.Head, v.PA}, claim{v.J, v.B, v.Head, v.PB}
	unlike := v.I < v.J && v.A != v.B
	return noPair && unlike && a.isOf(path, version) && b.isOf(path, version) && a.checks(k) && b.checks(k)
}
