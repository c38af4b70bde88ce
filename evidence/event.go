package evidence

import (
	"slices"

	"ledger/api"
	"ledger/client"
	"ledger/modver"
	"ledger/note"
	"ledger/proof"
	"ledger/tlog"
)

// event: a fact as a value of its kind, which holds what the kind names and nothing else.
type event interface {
	rightAt(k int, at note.Head) bool // where the session's head is this one
}

type moved struct{ step }

type agreed struct{ step }

type accepted struct {
	path, version string
	claim
}

// other: what is a fact of no kind.
type other struct{}

func eventOf(f client.Fact) event {
	between := step{f.Old, f.Head, f.Proof}
	ofNoRecord := f.Path == "" && f.Version == "" && f.Record == "" && f.Id == 0
	switch {
	case f.Kind == client.Moved && ofNoRecord:
		return moved{between}
	case f.Kind == client.Agreed && ofNoRecord:
		return agreed{between}
	case f.Kind == client.Accepted && f.Old == note.Head{} && len(f.Note) == 0:
		return accepted{f.Path, f.Version, claim{f.Id, f.Record, f.Head, f.Proof}}
	default:
		return other{}
	}
}

func (m moved) rightAt(k int, at note.Head) bool {
	if at.Size == 0 { // there is no head yet: no move leads to one without records
		at = emptyHead(k, m.head.Origin)
	}
	if m.old != at || m.head.Origin != at.Origin || m.head.Size <= at.Size || m.head.Size > api.MaxRecords {
		return false
	}
	if at.Size == 0 {
		return len(m.proof) == 0
	}
	return m.checks(k)
}

func (a agreed) rightAt(k int, at note.Head) bool {
	return a.head == at && a.old.Origin == at.Origin && a.old.Size < at.Size && a.checks(k) // which no head without records does, be it the old or the new one
}

func (a accepted) rightAt(k int, at note.Head) bool {
	return a.head == at && a.isOf(a.path, a.version) && a.checks(k) // which nothing does in a head without records
}

func (other) rightAt(int, note.Head) bool { return false }

// fact: the one that was given, in new memory.
func (a accepted) fact() client.Fact {
	return client.Fact{
		Kind:    client.Accepted,
		Path:    a.path,
		Version: a.version,
		Id:      a.id,
		Record:  a.record,
		Head:    a.head,
		Proof:   slices.Clone(a.proof),
	}
}

// step: from one head to another, with the tree proof that this one goes on from the first.
type step struct {
	old, head note.Head
	proof     []api.Hash
}

func (s step) checks(k int) bool {
	return proof.CheckTree(k, s.proof, s.head.Size, s.head.Root, s.old.Size, s.old.Root) == api.OK
}

// claim: that a record has an id in the tree of a head, with its record proof.
type claim struct {
	id     int64
	record string
	head   note.Head
	proof  []api.Hash
}

func (c claim) leaf(k int) api.Hash { return tlog.LeafHash(k, []byte(c.record)) }

func (c claim) checks(k int) bool {
	return proof.CheckRecord(k, c.proof, c.head.Size, c.head.Root, c.id, c.leaf(k)) == api.OK
}

func (c claim) isOf(path, version string) bool {
	p, v, _, _, e := modver.ParseRecord(c.record)
	return e == api.OK && p == path && v == version
}
