package world

import (
	"slices"

	"ledger/api"
	"ledger/client"
	"ledger/evidence"
	"ledger/note"
	"ledger/text"
)

func (w *World) judge(l *line) string {
	k := w.clients[l.names[0]].config.Strength
	a, b := w.clients[l.names[0]].facts(), w.clients[l.names[1]].facts()
	link, e := linkOf(k, a, b)
	if e != api.OK {
		return l.refuse(e)
	}
	v, e := evidence.Judge(k, a, b, l.texts[0], l.texts[1], link)
	if e != api.OK {
		return l.refuse(e)
	}
	if v.Kind == evidence.Collision {
		return l.tell("collision", text.Quote(v.Pair.A), text.Quote(v.Pair.B))
	}
	return l.tell("twice", text.FormatNumber(v.I), text.FormatNumber(v.J))
}

// linkOf: the tree proof between the final heads of two clients, as far as the one with the greater head has it among its facts.
func linkOf(k int, a, b []client.Fact) ([]api.Hash, api.Errno) {
	small, e := evidence.Final(k, a)
	if e != api.OK {
		return nil, e
	}
	great, e := evidence.Final(k, b)
	if e != api.OK {
		return nil, e
	}
	facts := b
	if small.Size > great.Size {
		small, great, facts = great, small, a
	}
	if small.Size == great.Size {
		return nil, api.OK
	}
	return lastProof(facts, small, great), api.OK
}

// lastProof: of the last fact that leads from one head to the other; none, if there is no such fact.
func lastProof(facts []client.Fact, from, to note.Head) []api.Hash {
	for _, f := range slices.Backward(facts) {
		if (f.Kind == client.Moved || f.Kind == client.Agreed) && f.Old == from && f.Head == to {
			return f.Proof
		}
	}
	return nil
}
