package evidence_test

import (
	"math"
	"slices"
	"strings"
	"testing"

	"ledger/api"
	"ledger/client"
	"ledger/evidence"
	"ledger/note"
)

func TestSessionsOfALog(t *testing.T) { // P18.1, P18.2: what is true of a log is a transcript, by whichever sizes the session has come
	for _, k := range strengths {
		b := bookOf(k, 9)
		for m := int64(1); m <= b.size(); m++ {
			for n := m + 1; n <= b.size(); n++ {
				facts := []client.Fact{b.moved(0, m)}
				for i := range m {
					facts = append(facts, b.accepted(i, m))
				}
				facts = append(facts, b.moved(m, n))
				for i := range n {
					facts = append(facts, b.accepted(i, n))
				}
				for i := int64(1); i < n; i++ {
					facts = append(facts, b.agreed(i, n))
				}
				isTranscript(t, "of a log", k, facts, b.head(n))
			}
		}
	}
}

func TestFactsOfNoKind(t *testing.T) { // P18.1: a fact of another kind is never right
	b := bookOf(0, 2)
	for _, kind := range []int{0, 4, 5, -1, -2, 256 + client.Moved, math.MaxInt, math.MinInt} {
		isNone(t, "no kind", 0, []client.Fact{{Kind: kind}}, api.ErrTranscript)
		for _, f := range []client.Fact{b.moved(1, 2), b.agreed(1, 2), b.accepted(0, 1)} {
			f.Kind = kind
			isNone(t, "no kind, behind a move", 0, []client.Fact{b.moved(0, 1), f}, api.ErrTranscript)
		}
	}
	for _, kind := range []int{client.Moved, client.Agreed, client.Accepted} {
		isNone(t, "a fact of nothing", 0, []client.Fact{{Kind: kind}}, api.ErrTranscript)
		for _, f := range []client.Fact{b.moved(1, 2), b.accepted(0, 1)} {
			if f.Kind != kind {
				f.Kind = kind
				isNone(t, "a fact under another kind", 0, []client.Fact{b.moved(0, 1), f}, api.ErrTranscript)
			}
		}
	}
}

// wrongWithRecords: what a Moved and an Agreed may not have.
func wrongWithRecords(f client.Fact) []client.Fact {
	return []client.Fact{
		but(f, func(f *client.Fact) { f.Id = 1 }),
		but(f, func(f *client.Fact) { f.Id = -1 }),
		but(f, func(f *client.Fact) { f.Path = path }),
		but(f, func(f *client.Fact) { f.Version = version }),
		but(f, func(f *client.Fact) { f.Record = rec(path) }),
		but(f, func(f *client.Fact) { f.Record = "\x00" }),
	}
}

// wrongHeads: a head, and what is not the same.
func wrongHeads(h note.Head) []note.Head {
	var out []note.Head
	for _, origin := range []string{"", "p", h.Origin + " ", strings.ToUpper(h.Origin)} {
		out = append(out, note.Head{Origin: origin, Size: h.Size, Root: h.Root})
	}
	for _, size := range []int64{0, -h.Size, h.Size - 1, h.Size + 1, h.Size + 1<<32, api.MaxRecords, api.MaxRecords + 1, math.MaxInt64, math.MinInt64} {
		if size != h.Size {
			out = append(out, note.Head{Origin: h.Origin, Size: size, Root: h.Root})
		}
	}
	first, last := h.Root, h.Root
	first[0] ^= 1
	last[31] ^= 0x80
	for _, root := range []api.Hash{first, last, {}} {
		out = append(out, note.Head{Origin: h.Origin, Size: h.Size, Root: root})
	}
	return append(out, note.Head{})
}

// wrongProofs: another length, and one hash that is not the same.
func wrongProofs(p []api.Hash) [][]api.Hash {
	out := [][]api.Hash{append(slices.Clone(p), api.Hash{}), append([]api.Hash{{}}, p...)}
	for i := range p {
		out = append(out, slices.Delete(slices.Clone(p), i, i+1))
		turned := slices.Clone(p)
		turned[i][31] ^= 1
		out = append(out, turned)
	}
	return out
}

// wrongBetween: heads and proofs that make a Moved or an Agreed wrong.
func wrongBetween(f client.Fact) []client.Fact {
	out := wrongWithRecords(f)
	for _, h := range wrongHeads(f.Old) {
		out = append(out, but(f, func(f *client.Fact) { f.Old = h }))
	}
	for _, p := range wrongProofs(f.Proof) {
		out = append(out, but(f, func(f *client.Fact) { f.Proof = p }))
	}
	return out
}

func TestWrongFirstMoves(t *testing.T) { // P18.1: from the empty head of Head's own origin, to one with records
	for _, k := range []int{0, 1, 31} {
		b := bookOf(k, 5)
		first := b.moved(0, 3)
		for _, f := range wrongBetween(first) {
			isNone(t, "a first move: "+tell(f), k, []client.Fact{f}, api.ErrTranscript)
		}
		for _, size := range []int64{0, -1, math.MinInt64, api.MaxRecords + 1, math.MaxInt64} {
			isNone(t, "a first move to such a size", k, []client.Fact{but(first, func(f *client.Fact) { f.Head.Size = size })}, api.ErrTranscript)
		}
		isNone(t, "a first move to another origin", k, []client.Fact{but(first, func(f *client.Fact) { f.Head.Origin = "p" })}, api.ErrTranscript)
		isNone(t, "a first move from a head with records", k, []client.Fact{b.moved(3, 5)}, api.ErrTranscript)
		isNone(t, "the empty head itself", k, []client.Fact{moved(empty(k), empty(k))}, api.ErrTranscript)
	}
	isNone(t, "the empty head of another strength", 2, []client.Fact{bookOf(1, 3).moved(0, 3)}, api.ErrTranscript)
	isNone(t, "the empty head of another strength", 0, []client.Fact{bookOf(31, 3).moved(0, 3)}, api.ErrTranscript)
}

func TestWrongLaterMoves(t *testing.T) { // P18.1: from the head there is, to a greater one that goes on from it
	for _, k := range []int{0, 31} {
		b := bookOf(k, 9)
		for m := int64(1); m < b.size(); m++ {
			next := b.moved(m, b.size())
			for _, f := range wrongBetween(next) {
				isNone(t, "a later move: "+tell(f), k, []client.Fact{b.moved(0, m), f}, api.ErrTranscript)
			}
			for _, h := range wrongHeads(next.Head) {
				if h.Size == 10 && h.Root == next.Head.Root {
					continue // the same proof leads there, too: it has one hash for all that came behind record 7
				}
				isNone(t, "a later move to another head", k, []client.Fact{b.moved(0, m), but(next, func(f *client.Fact) { f.Head = h })}, api.ErrTranscript)
			}
			isNone(t, "a move from nothing again", k, []client.Fact{b.moved(0, m), b.moved(0, m+1)}, api.ErrTranscript)
			isNone(t, "a move to the same head", k, []client.Fact{b.moved(0, m), moved(b.head(m), b.head(m))}, api.ErrTranscript)
			isNone(t, "a move back", k, []client.Fact{b.moved(0, 9), moved(b.head(9), b.head(m), b.treeProof(9, m)...)}, api.ErrTranscript)
			isNone(t, "a move from a head that was left", k, []client.Fact{b.moved(0, m), b.moved(m, 9), b.moved(m, 9)}, api.ErrTranscript)
		}
	}
}

func TestWrongAgreements(t *testing.T) { // P18.1: of a smaller head with the one there is
	for _, k := range []int{0, 31} {
		b := bookOf(k, 7)
		start := []client.Fact{b.moved(0, 5), b.moved(5, 7)}
		for m := int64(1); m < 7; m++ {
			right := b.agreed(m, 7)
			isTranscript(t, "Agreed", k, append(slices.Clone(start), right, right), b.head(7))
			wrong := wrongBetween(right)
			for _, h := range wrongHeads(right.Head) {
				wrong = append(wrong, but(right, func(f *client.Fact) { f.Head = h }))
			}
			for _, f := range wrong {
				isNone(t, "Agreed: "+tell(f), k, append(slices.Clone(start), f), api.ErrTranscript)
			}
			isNone(t, "Agreed ahead of the head", k, []client.Fact{right, b.moved(0, 7)}, api.ErrTranscript)
		}
		isNone(t, "Agreed with a head that was left", k, append(slices.Clone(start), b.agreed(3, 5)), api.ErrTranscript)
		isNone(t, "Agreed with a head that is yet to come", k, []client.Fact{b.moved(0, 5), b.agreed(5, 7), b.moved(5, 7)}, api.ErrTranscript)
		isNone(t, "Agreed of one size", k, append(slices.Clone(start), agreed(b.head(7), b.head(7))), api.ErrTranscript)
		isNone(t, "Agreed of the empty head", k, append(slices.Clone(start), agreed(empty(k), b.head(7))), api.ErrTranscript)
		isNone(t, "Agreed where there is no head", k, []client.Fact{agreed(note.Head{Size: -1}, note.Head{Root: hashOf(k)})}, api.ErrTranscript)
	}
	b := bookOf(0, 3)
	isTranscript(t, "Agreed does not move the head", 0, []client.Fact{b.moved(0, 2), b.agreed(1, 2), b.accepted(0, 2), b.moved(2, 3)}, b.head(3))
	isNone(t, "Agreed does not move the head back", 0, []client.Fact{b.moved(0, 2), b.agreed(1, 2), b.accepted(0, 1)}, api.ErrTranscript)
}

func TestWrongRecords(t *testing.T) { // P18.1: a record of its key, in the head there is
	for _, k := range []int{0, 31} {
		b := bookOf(k, 7)
		start := []client.Fact{b.moved(0, 5), b.moved(5, 7)}
		for i := range b.size() {
			right := b.accepted(i, 7)
			isTranscript(t, "Accepted", k, append(slices.Clone(start), right, right), b.head(7))
			var wrong []client.Fact
			for _, h := range wrongHeads(right.Head) {
				wrong = append(wrong, but(right, func(f *client.Fact) { f.Head = h }))
			}
			for _, p := range wrongProofs(right.Proof) {
				wrong = append(wrong, but(right, func(f *client.Fact) { f.Proof = p }))
			}
			for _, h := range []note.Head{empty(k), {Origin: origin}, {Size: 1}, {Root: api.Hash{31: 1}}, b.head(5)} {
				wrong = append(wrong, but(right, func(f *client.Fact) { f.Old = h }))
			}
			for _, id := range []int64{-1, i + 1, i - 1, 7, math.MaxInt64, math.MinInt64} {
				wrong = append(wrong, but(right, func(f *client.Fact) { f.Id = id }))
			}
			for _, s := range []string{"", "x", right.Path + " ", path} {
				wrong = append(wrong, but(right, func(f *client.Fact) { f.Path = s }), but(right, func(f *client.Fact) { f.Version = s }))
			}
			for _, s := range []string{"", "x", right.Record + "\n", right.Record[1:], right.Record[:len(right.Record)-1], rec(path), rec(right.Path, 200)} {
				wrong = append(wrong, but(right, func(f *client.Fact) { f.Record = s }))
			}
			wrong = append(wrong, but(right, func(f *client.Fact) { f.Note = []byte{0} }))
			for _, f := range wrong {
				isNone(t, "Accepted: "+tell(f), k, append(slices.Clone(start), f), api.ErrTranscript)
			}
			isNone(t, "Accepted ahead of the head", k, []client.Fact{right, b.moved(0, 7)}, api.ErrTranscript)
		}
		isNone(t, "Accepted under a head that was left", k, append(slices.Clone(start), b.accepted(0, 5)), api.ErrTranscript)
		isNone(t, "Accepted where there is no head", k, []client.Fact{accepted(rec(path), 0, note.Head{Root: hashOf(k)})}, api.ErrTranscript)
	}
}

func TestWhatIsNoRecord(t *testing.T) { // P18.1: modver.ParseRecord takes it, whatever the tree holds
	for _, r := range []string{"", "x", "a.example v1.0.0 h1:x\n", rec(path) + rec(path), strings.Repeat("x", 1025), strings.Repeat("x", 1<<21)} {
		one := head(1, leafOf(0, r))
		for _, f := range []client.Fact{{}, {Path: path, Version: version}} {
			f.Kind, f.Record, f.Head = client.Accepted, r, one
			isNone(t, "no record", 0, []client.Fact{moved(empty(0), one), f}, api.ErrTranscript)
		}
	}
}

func TestWhatIsNotLookedAt(t *testing.T) { // P18.1: notes of Moved and Agreed; an origin may be any text
	for _, origin := range []string{"", "\x00", "a b+c\n", strings.Repeat("x", 1000), "\xff"} {
		for _, n := range [][]byte{nil, {}, {0}, make([]byte, api.MaxNote+1)} {
			b := bookOf(0, 3)
			facts := []client.Fact{b.moved(0, 2), b.accepted(1, 2), b.moved(2, 3), b.agreed(1, 3)}
			for i := range facts {
				facts[i].Head.Origin = origin
				if facts[i].Kind != client.Accepted {
					facts[i].Old.Origin, facts[i].Note = origin, n
				}
			}
			final := b.head(3)
			final.Origin = origin
			isTranscript(t, "of any origin", 0, facts, final)
		}
	}
}

func TestNilAndEmpty(t *testing.T) { // P0.1: lists within facts and verdicts
	b := bookOf(0, 1)
	facts := []client.Fact{b.moved(0, 1), b.accepted(0, 1)}
	for i := range facts {
		facts[i].Proof, facts[i].Note = []api.Hash{}, []byte{}
	}
	isTranscript(t, "lists that are empty", 0, facts, b.head(1))
	for i := range facts {
		facts[i].Proof, facts[i].Note = nil, nil
	}
	isTranscript(t, "lists that are nil", 0, facts, b.head(1))
	isTranscript(t, "no facts", 0, []client.Fact{}, note.Head{Root: hashOf(0)})
}

func TestHowManyFacts(t *testing.T) { // P18.1, P18.2, P18.3: 1024, and one more, whatever they are
	b := bookOf(0, 1)
	right := append([]client.Fact{b.moved(0, 1)}, slices.Repeat([]client.Fact{b.accepted(0, 1)}, 1024)...)
	isTranscript(t, "1024 facts", 0, right[:1024], b.head(1))
	isTranscript(t, "1023 facts", 0, right[:1023], b.head(1))
	isNone(t, "1025 facts", 0, right, api.ErrLong)
	isNone(t, "1025 facts of no kind", 0, make([]client.Fact, 1025), api.ErrLong)
	isNone(t, "a great many facts", 0, make([]client.Fact, 100000), api.ErrLong)
	isNone(t, "1024 facts of no kind", 0, make([]client.Fact, 1024), api.ErrTranscript)
	right[1023].Id = 1
	isNone(t, "the last of 1024 wrong", 0, right[:1024], api.ErrTranscript)
}

func TestGreatTrees(t *testing.T) { // P18.1: up to 2^48 records and not above
	for _, k := range []int{0, 1} {
		for _, n := range []int64{1 << 47, 1<<48 - 1, 1 << 48} {
			isTranscript(t, "a first move", k, []client.Fact{moved(empty(k), head(n, api.Hash{4}))}, head(n, api.Hash{4}))
			r := rec(path)
			for _, i := range []int64{0, 1, n - 1} {
				p := make([]api.Hash, len(recordWay(i, 0, n)))
				root, _ := climbRecord(k, p, i, 0, n, leafOf(k, r))
				isTranscript(t, "a record", k, []client.Fact{moved(empty(k), head(n, root)), accepted(r, i, head(n, root), p...)}, head(n, root))
			}
			for _, m := range []int64{1, 2, 3, 1<<46 + 1, n - 1} {
				p := make([]api.Hash, len(treeWay(m, 0, n)))
				grown, before, _ := climbTree(k, p, m, 0, n, api.Hash{})
				small, great := head(m, before), head(n, grown)
				isTranscript(t, "a move", k, []client.Fact{moved(empty(k), small), moved(small, great, p...), agreed(small, great, p...)}, great)
			}
		}
		n, m := int64(1<<48+1), int64(1<<48)
		isNone(t, "a first move beyond", k, []client.Fact{moved(empty(k), head(n, api.Hash{4}))}, api.ErrTranscript)
		small, great := head(m, api.Hash{4}), head(n, nodeOf(k, api.Hash{4}, api.Hash{5}))
		isNone(t, "a move beyond", k, []client.Fact{moved(empty(k), small), moved(small, great, api.Hash{5})}, api.ErrTranscript)
	}
}

func TestFind(t *testing.T) { // P18.3: the first fact Accepted that has just this path and version, whole
	b := bookOf(0, 5)
	b.records[1], b.records[3] = rec(path, 1), rec(path, 2) // two of one key
	facts := []client.Fact{b.moved(0, 2), b.accepted(0, 2), b.accepted(1, 2), b.moved(2, 5), b.agreed(3, 5), b.accepted(3, 5), b.accepted(1, 5), b.accepted(0, 5), b.accepted(4, 5)}
	for _, c := range []struct {
		path string
		at   int
	}{{path, 2}, {"m.example/x0", 1}, {"m.example/x4", 8}} {
		f, e := evidence.Find(0, facts, c.path, version)
		if tell(f) != tell(facts[c.at]) || e != api.OK {
			t.Errorf("Find of %s = %+v, %d; want %+v", c.path, f, int(e), facts[c.at])
		}
	}
	if f, _ := evidence.Find(0, facts[3:], path, version); f.Kind != 0 {
		t.Error("Find in what is no transcript tells a fact")
	}
	turned := []client.Fact{b.moved(0, 5), b.accepted(3, 5), b.accepted(1, 5)}
	if f, e := evidence.Find(0, turned, path, version); tell(f) != tell(turned[1]) || e != api.OK {
		t.Errorf("Find of %s = %+v, %d", path, f, int(e))
	}
	for _, c := range []struct{ path, version string }{
		{path, "v1.0.1"}, {path, ""}, {"", version}, {"", ""}, {"m.example/x2", version}, {path + " ", version}, {path, version + "/go.mod"}, {strings.ToUpper(path), version}, {path + "@" + version, ""}, {version, path},
	} {
		if f, e := evidence.Find(0, facts, c.path, c.version); tell(f) != tell(client.Fact{}) || e != api.ErrAbsent {
			t.Errorf("Find of %q and %q = %+v, %d", c.path, c.version, f, int(e))
		}
		if v, e := evidence.Judge(0, facts, facts, c.path, c.version, nil); tell(v) != tell(evidence.Verdict{}) || e != api.ErrAbsent {
			t.Errorf("Judge of %q and %q = %+v, %d", c.path, c.version, v, int(e))
		}
	}
}
