package evidence_test

import (
	"math"
	"math/rand"
	"slices"
	"testing"

	"ledger/api"
	"ledger/client"
	"ledger/evidence"
	"ledger/note"
)

func TestForgedSessions(t *testing.T) { // P18.1 to P18.6: facts that anybody made up, of strength 1: what Judge answers is what the words say, and it always holds
	t.Parallel()
	r := forger{rand.New(rand.NewSource(11))}
	counts := map[string]int{}
	for range 600 {
		a, b, link := r.pair()
		follows(t, 1, a, b, path, version, link)
		v, e, from := trueJudge(1, a, b, path, version, link)
		if e == api.OK {
			counts[from]++
			if !trueHolds(1, v, path, version) || !evidence.Holds(1, v, path, version) {
				t.Fatalf("the verdict %+v of %+v and %+v doesn't hold", v, a, b)
			}
			if v.Kind == evidence.Collision && evidence.Holds(0, v, path, version) {
				t.Fatalf("%+v collides with all of its hash", v.Pair)
			}
		}
	}
	for _, from := range []string{fromMoveOfA, fromLinkOfA, fromMoveOfB, fromLinkOfB, fromRecords, fromTwice} {
		if counts[from] < 5 {
			t.Errorf("%d verdicts came from %s", counts[from], from)
		}
	}
}

// follows: all calls tell what the document's words say.
func follows(t *testing.T, k int, a, b []client.Fact, path, version string, link []api.Hash) {
	t.Helper()
	for _, facts := range [][]client.Fact{a, b} {
		final, ok := trueFinal(k, facts)
		check, refused := api.OK, api.OK
		if !ok {
			check, refused = api.ErrTranscript, api.ErrTranscript
		}
		if len(facts) > 1024 {
			check = api.ErrLong
		}
		if got := evidence.Check(k, facts); got != check {
			t.Fatalf("Check(%d, %+v) = %d; want %d", k, facts, int(got), int(check))
		}
		if h, e := evidence.Final(k, facts); e != refused || h != final && ok {
			t.Fatalf("Final(%d, %+v) = %v, %d; want %v, %d", k, facts, h, int(e), final, int(refused))
		}
		found := client.Fact{}
		if i := trueFind(facts, path, version); ok && i >= 0 {
			found = facts[i]
		} else if ok {
			refused = api.ErrAbsent
		}
		if f, e := evidence.Find(k, facts, path, version); tell(f) != tell(found) || e != refused {
			t.Fatalf("Find(%d, %+v) = %+v, %d; want %+v, %d", k, facts, f, int(e), found, int(refused))
		}
	}
	v, e, _ := trueJudge(k, a, b, path, version, link)
	if got, ge := evidence.Judge(k, a, b, path, version, link); tell(got) != tell(v) || ge != e {
		t.Fatalf("Judge(%d, %+v, %+v, %v) = %+v, %d; want %+v, %d", k, a, b, link, got, int(ge), v, int(e))
	}
}

// spoilHead: in one of its fields.
func (r forger) spoilHead(h *note.Head) {
	switch r.Intn(4) {
	case 0:
		h.Origin += "x"
	case 1:
		h.Size += r.Int63n(5) - 2
	case 2:
		h.Size = []int64{0, -1, api.MaxRecords, api.MaxRecords + 1, math.MaxInt64, math.MinInt64}[r.Intn(6)]
	default:
		h.Root[r.Intn(32)] ^= 1 << r.Intn(8)
	}
}

// spoilProof: a hash more, or less, or another.
func (r forger) spoilProof(p []api.Hash) []api.Hash {
	p = slices.Clone(p)
	switch at := r.Intn(len(p) + 1); {
	case at == len(p) || r.Intn(4) == 0:
		return slices.Insert(p, at, r.hash())
	case r.Intn(3) == 0:
		return slices.Delete(p, at, at+1)
	default:
		p[at][r.Intn(32)] ^= 1 << r.Intn(8)
		return p
	}
}

func (r forger) spoilFact(f client.Fact) client.Fact {
	switch r.Intn(9) {
	case 0:
		f.Kind = r.Intn(6) - 1
	case 1:
		f.Path = []string{"", path, "b.example", "c.example"}[r.Intn(4)]
	case 2:
		f.Version = []string{"", version, "v1.0.1"}[r.Intn(3)]
	case 3:
		f.Id = []int64{f.Id - 1, f.Id + 1, 0, math.MaxInt64, math.MinInt64}[r.Intn(5)]
	case 4:
		f.Record = []string{"", "x", rec(path, byte(r.Intn(256))), rec("b.example")}[r.Intn(4)]
	case 5:
		r.spoilHead(&f.Old)
	case 6:
		r.spoilHead(&f.Head)
	case 7:
		f.Proof = r.spoilProof(f.Proof)
	default:
		f.Note = [][]byte{nil, {}, {0}}[r.Intn(3)]
	}
	return f
}

// spoilFacts: one of them, or which there are and in which order.
func (r forger) spoilFacts(facts []client.Fact) []client.Fact {
	facts = slices.Clone(facts)
	if len(facts) == 0 {
		return facts
	}
	i, j := r.Intn(len(facts)), r.Intn(len(facts))
	switch r.Intn(8) {
	case 0:
		facts[i], facts[j] = facts[j], facts[i]
	case 1:
		return slices.Delete(facts, i, i+1)
	case 2:
		return slices.Insert(facts, i, facts[j])
	case 3:
		return facts[:i]
	default:
		facts[i] = r.spoilFact(facts[i])
	}
	return facts
}

func TestSpoiltSessions(t *testing.T) { // P18.1 to P18.4, P0.1: made-up facts with something turned in them
	t.Parallel()
	r := forger{rand.New(rand.NewSource(12))}
	counts := map[api.Errno]int{}
	for range 200 {
		a, b, link := r.pair()
		for range 20 {
			x, y, l := a, b, link
			switch r.Intn(3) {
			case 0:
				x = r.spoilFacts(x)
			case 1:
				y = r.spoilFacts(y)
			default:
				l = r.spoilProof(l)
			}
			k := []int{1, 1, 1, 1, 1, 0, 2}[r.Intn(7)]
			follows(t, k, x, y, path, version, l)
			_, e, _ := trueJudge(k, x, y, path, version, l)
			counts[e]++
		}
	}
	for _, e := range []api.Errno{api.OK, api.ErrTranscript, api.ErrAbsent} {
		if counts[e] < 100 {
			t.Errorf("Judge answered %d only %d times", int(e), counts[e])
		}
	}
}

func TestTrueSessionsSpoilt(t *testing.T) { // P18.1 to P18.4: the facts of a log, of the whole hash and of weak ones, with something turned in them
	t.Parallel()
	r := forger{rand.New(rand.NewSource(13))}
	counts := map[api.Errno]int{}
	for range 300 {
		k := []int{0, 32, 2, 31, 99}[r.Intn(5)]
		b := bookOf(k, 2+r.Intn(12))
		i, j := r.Int63n(b.size()), r.Int63n(b.size())
		b.records[i], b.records[j] = rec(path, 1), rec(path, 2)
		x, y := r.course(i, b.size()), r.course(j, b.size())
		one, two := b.session(i, x.under, x.sizes...), b.session(j, y.under, y.sizes...)
		link := b.treeProof(max(x.last(), y.last()), min(x.last(), y.last()))
		for range 10 {
			x, y, l := one, two, link
			switch r.Intn(4) {
			case 0:
				x = r.spoilFacts(x)
			case 1:
				y = r.spoilFacts(y)
			case 2:
				l = r.spoilProof(l)
			}
			follows(t, k, x, y, path, version, l)
			_, e, _ := trueJudge(k, x, y, path, version, l)
			counts[e]++
		}
	}
	for _, e := range []api.Errno{api.OK, api.ErrTranscript, api.ErrAbsent, api.ErrNothing} {
		if counts[e] < 20 {
			t.Errorf("Judge answered %d only %d times", int(e), counts[e])
		}
	}
}

// course: by any sizes up to one that is given, each with the same chance, to accept record i.
func (r forger) course(i, size int64) course {
	c := course{under: i + 1 + r.Int63n(size-i)}
	for n := int64(1); n <= size; n++ {
		if n == c.under || r.Intn(2) == 0 {
			c.sizes = append(c.sizes, n)
		}
	}
	return c
}

func TestHoldsAtRandom(t *testing.T) { // P18.5: verdicts with something turned in them
	t.Parallel()
	r := forger{rand.New(rand.NewSource(14))}
	counts := map[bool]int{}
	for range 300 {
		a, b, link := r.pair()
		v, e := evidence.Judge(1, a, b, path, version, link)
		if e != api.OK {
			continue
		}
		for range 10 {
			w := v
			switch r.Intn(9) {
			case 0:
				w.Kind = r.Intn(5) - 1
			case 1:
				w.Pair.A = append(slices.Clone(w.Pair.A), 0)
			case 2:
				w.Pair.B = append(slices.Clone(w.Pair.B), 0)
			case 3:
				r.spoilHead(&w.Head)
			case 4:
				w.I += r.Int63n(5) - 2
			case 5:
				w.J += r.Int63n(5) - 2
			case 6:
				w.A = []string{"", w.B, rec(path, byte(r.Intn(256)))}[r.Intn(3)]
			case 7:
				w.PA = r.spoilProof(w.PA)
			default:
				w.PB = r.spoilProof(w.PB)
			}
			holds := trueHolds(1, w, path, version)
			counts[holds]++
			if evidence.Holds(1, w, path, version) != holds {
				t.Fatalf("Holds(1, %+v) = %v", w, !holds)
			}
		}
	}
	if counts[true] < 50 || counts[false] < 50 {
		t.Errorf("%v came up", counts)
	}
}
