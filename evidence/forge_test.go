package evidence_test

import (
	"math/rand"

	"ledger/api"
	"ledger/client"
	"ledger/note"
)

// forger: makes facts of strength 1 up that check and are of no log: at that strength some 256 tries find hashes that lead anywhere.
type forger struct{ *rand.Rand }

// hash: any 32 bytes, such as a proof may hold.
func (r forger) hash() (h api.Hash) {
	r.Read(h[:])
	return h
}

// root: one that a node or a leaf can have.
func (r forger) root() api.Hash { return api.Hash{byte(r.Intn(256))} }

// recordProof: that this record is the one of id i; in a tree of two or more.
func (r forger) recordProof(h note.Head, i int64, record string) []api.Hash {
	p := make([]api.Hash, len(recordWay(i, 0, h.Size)))
	for !recordChecks(1, p, h, i, record) {
		for j := range p {
			p[j] = r.hash()
		}
	}
	return p
}

// treeProof: from one head to a greater one. The seed and what lies to its left make the old root, and what lies to the right then the new one, or, if that leads nowhere, all is begun anew.
func (r forger) treeProof(h, old note.Head) []api.Hash {
	way := treeWay(old.Size, 0, h.Size)
	p := make([]api.Hash, len(way))
	for try := 0; !treeChecks(1, p, h, old); try++ {
		_, before, _ := climbTree(1, p, old.Size, 0, h.Size, old.Root)
		for j, a := range way {
			if before != old.Root || try%1000 == 0 || a.from >= old.Size {
				p[j] = r.hash()
			}
		}
	}
	return p
}

func (r forger) moved(old, h note.Head) client.Fact {
	if old.Size == 0 {
		return moved(old, h)
	}
	return moved(old, h, r.treeProof(h, old)...)
}

// accepted: any record of the path at any id.
func (r forger) accepted(path string, h note.Head) client.Fact {
	if h.Size == 1 {
		return accepted(meeting(path, h.Root), 0, h)
	}
	record, i := rec(path, byte(r.Intn(256)), byte(r.Intn(256))), r.Int63n(h.Size)
	return accepted(record, i, h, r.recordProof(h, i, record)...)
}

func (r forger) agreed(h note.Head) client.Fact {
	old := head(1+r.Int63n(h.Size-1), r.root())
	return agreed(old, h, r.treeProof(h, old)...)
}

// session: of moves up to a final head that is given, each with facts behind it.
func (r forger) session(final note.Head) []client.Fact {
	var facts []client.Fact
	at := empty(1)
	for at != final {
		next := final
		if left := final.Size - at.Size; left > 1 && r.Intn(3) > 0 {
			next = head(at.Size+1+r.Int63n(left-1), r.root())
		}
		facts = append(facts, r.moved(at, next))
		at = next
		for range r.Intn(3) {
			switch r.Intn(4) {
			case 0:
				facts = append(facts, r.accepted("b.example", at))
			case 1:
				if at.Size > 1 {
					facts = append(facts, r.agreed(at))
				}
			default:
				facts = append(facts, r.accepted(path, at))
			}
		}
	}
	return facts
}

// pair: two sessions whose final heads are linked.
func (r forger) pair() (a, b []client.Fact, link []api.Hash) {
	small := head(1+r.Int63n(9), r.root())
	great := small
	if r.Intn(4) > 0 {
		great = head(small.Size+1+r.Int63n(6), r.root())
		link = r.treeProof(great, small)
	}
	a, b = r.session(small), r.session(great)
	if r.Intn(2) == 0 {
		a, b = b, a
	}
	return a, b, link
}
