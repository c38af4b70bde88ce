package client

import (
	"ledger/api"
	"ledger/proof"
	"ledger/tlog"
)

// compare: all tiles are right, so where the heads part the log has signed both.
func (t *task) compare([][]byte) error {
	if t.hasProof() && t.folds[0] != t.small.head.Root {
		return forked{Fork{Small: t.small.note, Great: t.great.note, Root: t.folds[0], Proof: t.treeProof()}}
	}
	if t.lookup == nil {
		return nil
	}
	k := t.session.config.Strength
	leaf := tlog.LeafHash(k, []byte(t.lookup.record))
	if proof.CheckRecord(k, t.recordProof(), t.great.head.Size, t.great.head.Root, t.lookup.id, leaf) != api.OK {
		return api.ErrInclusion
	}
	return nil
}

// treeProof: behind the fold of the smaller head's peaks.
func (t *task) treeProof() []api.Hash {
	if !t.hasProof() {
		return nil
	}
	return t.folds[1:t.compared]
}

func (t *task) recordProof() []api.Hash { return t.folds[t.compared:] }

// accept: only the move of the head can fail, so it comes ahead of all else.
func (t *task) accept([][]byte) error {
	c := t.session
	moves := t.moves()
	if moves {
		if e := c.files.SetHead(c.trusted.note, t.fresh.note); e != api.OK {
			return e
		}
		c.trusted = t.fresh
	}
	for _, p := range t.pieces {
		if !p.cached {
			c.files.Put(p.tile, p.data)
		}
	}
	c.facts = append(c.facts, t.facts(moves)...)
	return nil
}

func (t *task) facts(moved bool) []Fact {
	var facts []Fact
	between := Fact{Old: t.small.head, Head: t.great.head, Proof: t.treeProof(), Note: t.fresh.note}
	switch {
	case moved:
		between.Kind = Moved
		facts = append(facts, between)
	case t.hasProof():
		between.Kind = Agreed
		facts = append(facts, between)
	}
	if l := t.lookup; l != nil {
		facts = append(facts, Fact{Kind: Accepted, Path: l.path, Version: l.version, Id: l.id, Record: l.record, Head: t.great.head, Proof: t.recordProof()})
	}
	return facts
}
