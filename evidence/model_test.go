package evidence_test

import (
	"ledger/api"
	"ledger/client"
	"ledger/evidence"
	"ledger/modver"
	"ledger/note"
	"ledger/proof"
)

// The document's words, turned into code as they stand.

// climbRecord: from the leaf of record i up to the root of the range; false, if the proof has another length.
func climbRecord(k int, p []api.Hash, i, from, to int64, leaf api.Hash) (api.Hash, bool) {
	if to-from == 1 {
		return leaf, len(p) == 0
	}
	if len(p) == 0 {
		return api.Hash{}, false
	}
	c, below, last := cutOf(from, to), p[:len(p)-1], p[len(p)-1]
	if i < c {
		h, ok := climbRecord(k, below, i, from, c, leaf)
		return nodeOf(k, h, last), ok
	}
	h, ok := climbRecord(k, below, i, c, to, leaf)
	return nodeOf(k, last, h), ok
}

// climbTree: the new hash and the old one of the range.
func climbTree(k int, p []api.Hash, m, from, to int64, old api.Hash) (grown, before api.Hash, ok bool) {
	if m == to && from == 0 {
		return old, old, len(p) == 0
	}
	if len(p) == 0 {
		return api.Hash{}, api.Hash{}, false
	}
	below, last := p[:len(p)-1], p[len(p)-1]
	if m == to {
		return last, last, len(below) == 0
	}
	if c := cutOf(from, to); m <= c {
		grown, before, ok = climbTree(k, below, m, from, c, old)
		return nodeOf(k, grown, last), before, ok
	} else {
		grown, before, ok = climbTree(k, below, m, c, to, old)
		return nodeOf(k, last, grown), nodeOf(k, last, before), ok
	}
}

func recordChecks(k int, p []api.Hash, h note.Head, i int64, record string) bool {
	if h.Size < 1 || h.Size > api.MaxRecords || i < 0 || i >= h.Size {
		return false
	}
	root, ok := climbRecord(k, p, i, 0, h.Size, leafOf(k, record))
	return ok && root == h.Root
}

func treeChecks(k int, p []api.Hash, h, old note.Head) bool {
	if h.Size < 1 || h.Size > api.MaxRecords || old.Size < 1 || old.Size > h.Size {
		return false
	}
	grown, before, ok := climbTree(k, p, old.Size, 0, h.Size, old.Root)
	return ok && grown == h.Root && before == old.Root
}

func isRecordOf(record, path, version string) bool {
	p, v, _, _, e := modver.ParseRecord(record)
	return e == api.OK && p == path && v == version
}

// isRight: a fact, where there is this head, or none yet.
func isRight(k int, f client.Fact, at note.Head, there bool) bool {
	none := f.Path == "" && f.Version == "" && f.Record == "" && f.Id == 0
	switch f.Kind {
	case client.Moved:
		if there && f.Old != at || !there && f.Old != (note.Head{Origin: f.Head.Origin, Size: 0, Root: hashOf(k)}) {
			return false
		}
		if f.Head.Origin != f.Old.Origin || f.Head.Size <= f.Old.Size || f.Head.Size > 1<<48 {
			return false
		}
		if f.Old.Size == 0 {
			return none && len(f.Proof) == 0
		}
		return none && treeChecks(k, f.Proof, f.Head, f.Old)
	case client.Agreed:
		if !there || f.Head != at || f.Old.Origin != f.Head.Origin || f.Old.Size < 1 || f.Old.Size > f.Head.Size-1 {
			return false
		}
		return none && treeChecks(k, f.Proof, f.Head, f.Old)
	case client.Accepted:
		if !there || f.Head != at || !isRecordOf(f.Record, f.Path, f.Version) {
			return false
		}
		return recordChecks(k, f.Proof, f.Head, f.Id, f.Record) && f.Old == (note.Head{}) && len(f.Note) == 0
	}
	return false
}

// trueFinal: false, if the facts are no transcript.
func trueFinal(k int, facts []client.Fact) (note.Head, bool) {
	at, there := note.Head{Root: hashOf(k)}, false
	for _, f := range facts {
		if !isRight(k, f, at, there) {
			return note.Head{}, false
		}
		if f.Kind == client.Moved {
			at, there = f.Head, true
		}
	}
	return at, len(facts) <= 1024
}

// trueFind: the number of the fact in the list; -1, if there is none.
func trueFind(facts []client.Fact, path, version string) int {
	for i, f := range facts {
		if f.Kind == client.Accepted && f.Path == path && f.Version == version {
			return i
		}
	}
	return -1
}

// Where a verdict comes from, so that a test can count them.
const (
	fromMoveOfA = "a's move"
	fromLinkOfA = "a's link"
	fromMoveOfB = "b's move"
	fromLinkOfB = "b's link"
	fromRecords = "the records"
	fromTwice   = "twice"
)

// trueJudge: the verdict, and where it comes from; proof's calls are taken as chapter 9 promises them.
func trueJudge(k int, a, b []client.Fact, path, version string, link []api.Hash) (evidence.Verdict, api.Errno, string) {
	finalA, okA := trueFinal(k, a)
	finalB, okB := trueFinal(k, b)
	if !okA || !okB || len(a) > 0 && len(b) > 0 && finalA.Origin != finalB.Origin {
		return evidence.Verdict{}, api.ErrTranscript, ""
	}
	i, j := trueFind(a, path, version), trueFind(b, path, version)
	if i < 0 || j < 0 {
		return evidence.Verdict{}, api.ErrAbsent, ""
	}
	if a[i].Record == b[j].Record {
		return evidence.Verdict{}, api.ErrNothing, ""
	}
	small, great := finalA, finalB
	if finalA.Size >= finalB.Size {
		small, great = finalB, finalA
	}
	if small.Size == great.Size && (len(link) > 0 || small.Root != great.Root) {
		return evidence.Verdict{}, api.ErrTranscript, ""
	}
	if small.Size < great.Size && !treeChecks(k, link, great, small) {
		return evidence.Verdict{}, api.ErrTranscript, ""
	}
	pa, pair, from := trueLift(k, a, i, finalA, great, link, fromMoveOfA, fromLinkOfA)
	if from != "" {
		return evidence.Verdict{Kind: evidence.Collision, Pair: pair}, api.OK, from
	}
	pb, pair, from := trueLift(k, b, j, finalB, great, link, fromMoveOfB, fromLinkOfB)
	if from != "" {
		return evidence.Verdict{Kind: evidence.Collision, Pair: pair}, api.OK, from
	}
	if a[i].Id == b[j].Id {
		pair, _ := proof.CollideRecords(k, great.Size, a[i].Id, []byte(a[i].Record), pa, []byte(b[j].Record), pb)
		return evidence.Verdict{Kind: evidence.Collision, Pair: pair}, api.OK, fromRecords
	}
	v := evidence.Verdict{Kind: evidence.Twice, Head: great, I: a[i].Id, J: b[j].Id, A: a[i].Record, B: b[j].Record, PA: pa, PB: pb}
	if v.J < v.I {
		v.I, v.J, v.A, v.B, v.PA, v.PB = v.J, v.I, v.B, v.A, v.PB, v.PA
	}
	return v, api.OK, fromTwice
}

// trueLift: the record proof of fact i in the great head; or the pair at which a lifting parts, and where that was.
func trueLift(k int, facts []client.Fact, i int, final, great note.Head, link []api.Hash, move, last string) ([]api.Hash, proof.Pair, string) {
	f := facts[i]
	leaf := leafOf(k, f.Record)
	at, p := f.Head, f.Proof
	for _, g := range facts[i+1:] {
		if g.Kind != client.Moved {
			continue
		}
		lifted, pair, e := proof.Lift(k, at.Size, at.Root, f.Id, leaf, p, g.Head.Size, g.Head.Root, g.Proof)
		if e == api.ErrParts {
			return nil, pair, move
		}
		at, p = g.Head, lifted
	}
	if final.Size < great.Size {
		lifted, pair, e := proof.Lift(k, at.Size, at.Root, f.Id, leaf, p, great.Size, great.Root, link)
		if e == api.ErrParts {
			return nil, pair, last
		}
		p = lifted
	}
	return p, proof.Pair{}, ""
}

// trueHolds: by the library's hash.
func trueHolds(k int, v evidence.Verdict, path, version string) bool {
	switch v.Kind {
	case evidence.Collision:
		if string(v.Pair.A) == string(v.Pair.B) || hashOf(k, v.Pair.A) != hashOf(k, v.Pair.B) {
			return false
		}
		rest := v
		rest.Kind, rest.Pair = 0, proof.Pair{}
		return tell(rest) == tell(evidence.Verdict{})
	case evidence.Twice:
		if len(v.Pair.A)+len(v.Pair.B) > 0 || v.I < 0 || v.J <= v.I || v.A == v.B {
			return false
		}
		if !isRecordOf(v.A, path, version) || !isRecordOf(v.B, path, version) {
			return false
		}
		return recordChecks(k, v.PA, v.Head, v.I, v.A) && recordChecks(k, v.PB, v.Head, v.J, v.B)
	}
	return false
}
