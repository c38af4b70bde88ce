package evidence_test

import (
	"bytes"
	"fmt"
	"math/rand"
	"slices"
	"strings"
	"sync"
	"testing"

	"ledger/api"
	"ledger/client"
	"ledger/evidence"
	"ledger/proof"
)

// roomy: the items with room behind them, which an append would fill.
func roomy[T any](items []T, rest ...T) []T {
	return slices.Concat(items, rest)[:len(items)]
}

// whole: a list and the room behind it.
func whole[T any](list []T) []T { return list[:cap(list)] }

// spoil: overwrites a list and the room behind it.
func spoil[T any](list []T, with T) {
	for i := range whole(list) {
		whole(list)[i] = with
	}
}

// roomyFacts: with room behind them, and behind each list in them.
func roomyFacts(facts []client.Fact) []client.Fact {
	var out []client.Fact
	for _, f := range facts {
		f.Proof, f.Note = roomy(f.Proof, api.Hash{7}, api.Hash{8}), roomy(f.Note, []byte("rest")...)
		out = append(out, f)
	}
	return roomy(out, client.Fact{Kind: 9}, client.Fact{Kind: 8})
}

// tellFacts: all of them, with all room.
func tellFacts(facts []client.Fact) string {
	var out strings.Builder
	for _, f := range whole(facts) {
		out.WriteString(tell(f) + tell(whole(f.Proof)) + tell(whole(f.Note)))
	}
	return out.String()
}

func spoilFacts(facts []client.Fact) {
	for _, f := range whole(facts) {
		spoil(f.Proof, api.Hash{9})
		spoil(f.Note, '#')
	}
	spoil(facts, client.Fact{Kind: -1})
}

func roomyVerdict(v evidence.Verdict) evidence.Verdict {
	v.Pair = proof.Pair{A: roomy(v.Pair.A, 'x'), B: roomy(v.Pair.B, 'y')}
	v.PA, v.PB = roomy(v.PA, api.Hash{7}), roomy(v.PB, api.Hash{8})
	return v
}

func tellVerdict(v evidence.Verdict) string {
	return tell(v) + tell(whole(v.Pair.A)) + tell(whole(v.Pair.B)) + tell(whole(v.PA)) + tell(whole(v.PB))
}

// dispute: two sessions, and the link between their final heads.
type dispute struct {
	a, b []client.Fact
	link []api.Hash
}

// disputes: of which Judge makes verdicts of all sorts and from all places.
func disputes(n int) []dispute {
	r := forger{rand.New(rand.NewSource(21))}
	var out []dispute
	for len(out) < n {
		a, b, link := r.pair()
		if _, e, _ := trueJudge(1, a, b, path, version, link); e == api.OK || r.Intn(10) == 0 {
			out = append(out, dispute{a, b, link})
		}
	}
	return out
}

func TestWhatIsGivenStays(t *testing.T) { // P18.8, P0.2: facts, links, verdicts and forks are not changed, nor the room behind them
	for _, d := range disputes(60) {
		a, b, link := roomyFacts(d.a), roomyFacts(d.b), roomy(d.link, api.Hash{6})
		before := tellFacts(a) + tellFacts(b) + tell(whole(link))
		evidence.Check(1, a)
		evidence.Final(1, a)
		evidence.Find(1, a, path, version)
		v, _ := evidence.Judge(1, a, b, path, version, link)
		evidence.Judge(1, b, a, path, version, link)
		if tellFacts(a)+tellFacts(b)+tell(whole(link)) != before {
			t.Fatal("what was given has changed")
		}
		v = roomyVerdict(v)
		was := tellVerdict(v)
		evidence.Holds(1, v, path, version)
		if tellVerdict(v) != was {
			t.Fatal("a verdict that was given has changed")
		}
	}
	for _, root := range []api.Hash{{1}, {2}} {
		x := api.Hash{3}
		f := client.Fork{Small: roomy(signed(head(1, api.Hash{1})), 'x'), Great: roomy(signed(head(2, nodeOf(0, root, x))), 'y'), Root: root, Proof: roomy([]api.Hash{x}, api.Hash{4})}
		before := tell(f) + tell(whole(f.Small)) + tell(whole(f.Great)) + tell(whole(f.Proof))
		evidence.CheckFork(0, origin, verifier(), f)
		if tell(f)+tell(whole(f.Small))+tell(whole(f.Great))+tell(whole(f.Proof)) != before {
			t.Fatal("a fork that was given has changed")
		}
	}
}

func TestAnswersAreNewMemory(t *testing.T) { // P18.8, P0.2: shared neither with what was given nor with another answer, the room behind it too
	counts := map[int]int{}
	for _, d := range disputes(120) {
		a, b, link := roomyFacts(d.a), roomyFacts(d.b), roomy(d.link, api.Hash{6})
		before := tellFacts(a) + tellFacts(b) + tell(whole(link))
		v, _ := evidence.Judge(1, a, b, path, version, link)
		again, _ := evidence.Judge(1, a, b, path, version, link)
		f, _ := evidence.Find(1, a, path, version)
		g, _ := evidence.Find(1, a, path, version)
		verdict, fact := tell(again), tell(g)
		spoilVerdict(v)
		spoil(f.Proof, api.Hash{9})
		spoil(f.Note, '#')
		if tellFacts(a)+tellFacts(b)+tell(whole(link)) != before {
			t.Fatal("an answer shares memory with what was given")
		}
		if tell(again) != verdict || tell(g) != fact {
			t.Fatal("two answers share memory")
		}
		spoilFacts(a)
		spoilFacts(b)
		spoil(link, api.Hash{9})
		if tell(again) != verdict || tell(g) != fact {
			t.Fatal("an answer hangs on what was given")
		}
		counts[again.Kind]++
	}
	if counts[evidence.Collision] < 10 || counts[evidence.Twice] < 10 {
		t.Errorf("verdicts of the kinds %v came up", counts)
	}
}

func spoilVerdict(v evidence.Verdict) {
	spoil(v.Pair.A, '#')
	spoil(v.Pair.B, '#')
	spoil(v.PA, api.Hash{9})
	spoil(v.PB, api.Hash{9})
}

func TestListsOfOneVerdict(t *testing.T) { // P18.8, P0.2: each by itself, though all that was given shares memory
	l, r := leafOf(0, rec(path, 1)), leafOf(0, rec(path, 2))
	two := head(2, nodeOf(0, l, r))
	shared := []api.Hash{l, r, l} // both proofs and the room behind them are pieces of it
	a := []client.Fact{moved(empty(0), two), accepted(rec(path, 1), 0, two, shared[1:2]...)}
	b := []client.Fact{moved(empty(0), two), accepted(rec(path, 2), 1, two, shared[:1]...)}
	v, e := evidence.Judge(0, a, b, path, version, shared[:0])
	want(t, "Judge", e, api.OK)
	spoil(v.PA, api.Hash{9})
	if !slices.Equal(v.PB, []api.Hash{l}) {
		t.Error("PA and PB share memory")
	}
	spoil(v.PB, api.Hash{9})
	if !slices.Equal(shared, []api.Hash{l, r, l}) {
		t.Error("a verdict's proofs share memory with the facts")
	}
	for _, d := range disputes(60) {
		v, _ := evidence.Judge(1, d.a, d.b, path, version, d.link)
		pb, pairB := slices.Clone(v.PB), bytes.Clone(v.Pair.B)
		spoil(v.PA, api.Hash{9})
		spoil(v.Pair.A, '#')
		if !slices.Equal(v.PB, pb) || !bytes.Equal(v.Pair.B, pairB) {
			t.Fatal("two lists of a verdict share memory")
		}
	}
}

func TestFindOfAFactWithRoom(t *testing.T) { // P18.8: an empty list with room behind it gives none of that out
	one := head(1, leafOf(0, rec(path)))
	room, bytes := make([]api.Hash, 3), make([]byte, 3)
	get := accepted(rec(path), 0, one)
	get.Proof, get.Note = room[:0], bytes[:0]
	f, e := evidence.Find(0, []client.Fact{moved(empty(0), one), get}, path, version)
	want(t, "Find", e, api.OK)
	spoil(f.Proof, api.Hash{9})
	spoil(f.Note, '#')
	if !slices.Equal(room, make([]api.Hash, 3)) || string(bytes) != "\x00\x00\x00" {
		t.Error("the fact shares memory with what was given")
	}
}

// story: all answers on one dispute.
func story(d dispute) string {
	check := evidence.Check(1, d.a)
	final, e := evidence.Final(1, d.b)
	found, f := evidence.Find(1, d.a, path, version)
	v, g := evidence.Judge(1, d.a, d.b, path, version, d.link)
	holds := evidence.Holds(1, v, path, version)
	fork := client.Fork{Small: signed(final), Great: signed(final), Root: final.Root}
	return fmt.Sprint(int(check), final, int(e), tell(found), int(f), tell(v), int(g), holds, int(evidence.CheckFork(1, origin, verifier(), fork)))
}

func TestSameCallsSameAnswers(t *testing.T) { // P18.8, P0.2: whatever was called before, and what is called at the same time
	list := disputes(40)
	var first []string
	for _, d := range list {
		first = append(first, story(d))
	}
	again := make([]string, 4*len(list))
	var wg sync.WaitGroup
	for i := range again {
		wg.Go(func() { again[i] = story(list[i*7%len(list)]) })
	}
	wg.Wait()
	for i, s := range again {
		if s != first[i*7%len(list)] {
			t.Errorf("dispute %d is told otherwise: %s; was %s", i, s, first[i*7%len(list)])
		}
	}
}
