package evidence_test

import (
	"slices"
	"testing"

	"ledger/api"
	"ledger/client"
	"ledger/evidence"
	"ledger/note"
	"ledger/proof"
)

// The examples of chapter 18, by their numbers.

func TestExamplesOfTranscripts(t *testing.T) { // P18.1, P18.2, P18.3: examples 1 to 5
	for _, k := range strengths {
		// 1
		isTranscript(t, "no facts", k, nil, note.Head{Root: hashOf(k)})
		refuses(t, "no facts", k, nil, nil, nil, api.ErrAbsent)
		// 2
		r0, r1 := rec(path), rec("b.example")
		l0, l1 := leafOf(k, r0), leafOf(k, r1)
		one, two := head(1, l0), head(2, nodeOf(k, l0, l1))
		first := moved(empty(k), one)
		isTranscript(t, "a move", k, []client.Fact{first}, one)
		isNone(t, "Old's root of zeros", k, []client.Fact{but(first, func(f *client.Fact) { f.Old.Root = api.Hash{} })}, api.ErrTranscript)
		isNone(t, "the origin p in Old", k, []client.Fact{but(first, func(f *client.Fact) { f.Old.Origin = "p" })}, api.ErrTranscript)
		isNone(t, "a first proof", k, []client.Fact{moved(empty(k), one, l1)}, api.ErrTranscript)
		isNone(t, "a move with an id", k, []client.Fact{but(first, func(f *client.Fact) { f.Id = 1 })}, api.ErrTranscript)
		// 3
		get := accepted(r0, 0, one)
		isTranscript(t, "a record", k, []client.Fact{first, get}, one)
		for what, f := range map[string]client.Fact{
			"a record of another root": but(get, func(f *client.Fact) { f.Head = head(1, api.Hash{9}) }),
			"another record":           but(get, func(f *client.Fact) { f.Record = r1 }),
			"the path of another":      but(get, func(f *client.Fact) { f.Path = "b.example" }),
			"a note":                   but(get, func(f *client.Fact) { f.Note = []byte("x") }),
		} {
			isNone(t, what, k, []client.Fact{first, f}, api.ErrTranscript)
		}
		isNone(t, "a record ahead of the move", k, []client.Fact{get, first}, api.ErrTranscript)
		// 4
		next := moved(one, two, l1)
		isTranscript(t, "a second move", k, []client.Fact{first, get, next}, two)
		isTranscript(t, "Agreed", k, []client.Fact{first, get, next, agreed(one, two, l1)}, two)
		isNone(t, "Agreed of the head itself", k, []client.Fact{first, get, next, agreed(two, two)}, api.ErrTranscript)
		isNone(t, "Agreed of the head itself, with the proof", k, []client.Fact{first, get, next, agreed(two, two, l1)}, api.ErrTranscript)
		// 5
		isNone(t, "1025 facts", k, append([]client.Fact{first}, slices.Repeat([]client.Fact{get}, 1024)...), api.ErrLong)
	}
}

func TestExamplesOfVerdicts(t *testing.T) { // P18.4, P18.5, P18.6: examples 6 to 9
	for _, k := range []int{0, 2, 31, 32, -5} {
		r0, s0 := rec(path, 1), rec(path, 2)
		l0, m := leafOf(k, r0), leafOf(k, s0)
		one, two := head(1, l0), head(2, nodeOf(k, l0, m))
		// 6
		a := []client.Fact{moved(empty(k), one), accepted(r0, 0, one), moved(one, two, m)}
		b := []client.Fact{moved(empty(k), two), accepted(s0, 1, two, l0)}
		v := evidence.Verdict{Kind: evidence.Twice, Head: two, I: 0, J: 1, A: r0, B: s0, PA: []api.Hash{m}, PB: []api.Hash{l0}}
		judges(t, "a and b", k, a, b, nil, v)
		judges(t, "b and a", k, b, a, nil, v)
		// 7
		other := []client.Fact{moved(empty(k), head(1, m)), accepted(s0, 0, head(1, m))}
		refuses(t, "roots that part", k, a[:2], other, nil, api.ErrTranscript)
		// 8
		judges(t, "linked", k, a[:2], b, []api.Hash{m}, v)
		refuses(t, "linked by l0", k, a[:2], b, []api.Hash{l0}, api.ErrTranscript)
		refuses(t, "not linked", k, a[:2], b, nil, api.ErrTranscript)
		same := []client.Fact{moved(empty(k), two), accepted(r0, 0, two, m)}
		for _, link := range [][]api.Hash{nil, {m}, {l0}, {m, m}} {
			refuses(t, "the same record", k, a[:2], same, link, api.ErrNothing)
		}
		// 9
		turned := v
		turned.I, turned.J = v.J, v.I
		if evidence.Holds(k, v, path, "v1.0.1") || evidence.Holds(k, turned, path, version) || evidence.Holds(k, evidence.Verdict{}, path, version) {
			t.Errorf("strength %d: a verdict that doesn't stand holds", k)
		}
		like := evidence.Verdict{Kind: evidence.Collision, Pair: proof.Pair{A: []byte("x"), B: []byte("x")}}
		if evidence.Holds(k, like, path, version) {
			t.Errorf("strength %d: two like strings collide", k)
		}
	}
}

func TestExampleOfACollision(t *testing.T) { // P18.4: example 7, where l0 = m
	r0 := rec(path)
	l0 := leafOf(1, r0)
	s0 := meeting(path, l0)
	one := head(1, l0)
	a := []client.Fact{moved(empty(1), one), accepted(r0, 0, one)}
	b := []client.Fact{moved(empty(1), one), accepted(s0, 0, one)}
	judges(t, "one leaf hash", 1, a, b, nil, evidence.Verdict{Kind: evidence.Collision, Pair: proof.Pair{A: []byte(leafBytes(r0)), B: []byte(leafBytes(s0))}})
	judges(t, "one leaf hash, turned about", 1, b, a, nil, evidence.Verdict{Kind: evidence.Collision, Pair: proof.Pair{A: []byte(leafBytes(s0)), B: []byte(leafBytes(r0))}})
}

func TestExamplesOfForks(t *testing.T) { // P18.7: example 10
	for _, k := range strengths {
		l0, m, x := api.Hash{1}, api.Hash{2}, api.Hash{3}
		one, other := signed(head(1, l0)), signed(head(1, m))
		two, along := signed(head(2, nodeOf(k, m, x))), signed(head(2, nodeOf(k, l0, x)))
		for what, c := range map[string]struct {
			f client.Fork
			e api.Errno
		}{
			"of one size":                  {client.Fork{Small: one, Great: other, Root: m}, api.OK},
			"of one size, with Root l0":    {client.Fork{Small: one, Great: other, Root: l0}, api.ErrProof},
			"of two sizes":                 {client.Fork{Small: one, Great: two, Root: m, Proof: []api.Hash{x}}, api.OK},
			"changed about":                {client.Fork{Small: two, Great: one, Root: m, Proof: []api.Hash{x}}, api.ErrArg},
			"with two hashes as the proof": {client.Fork{Small: one, Great: two, Root: m, Proof: []api.Hash{x, x}}, api.ErrProofLength},
			"that is none":                 {client.Fork{Small: one, Great: along, Root: l0, Proof: []api.Hash{x}}, api.ErrNothing},
		} {
			want(t, "CheckFork "+what, evidence.CheckFork(k, origin, verifier(), c.f), c.e)
		}
	}
}
