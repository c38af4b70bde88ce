package evidence_test

import (
	"math"
	"testing"

	"ledger/api"
	"ledger/evidence"
	"ledger/note"
	"ledger/proof"
)

// collision: of strength 1.
func collision() evidence.Verdict {
	r := rec(path)
	s := meeting(path, leafOf(1, r))
	return evidence.Verdict{Kind: evidence.Collision, Pair: proof.Pair{A: []byte(leafBytes(r)), B: []byte(leafBytes(s))}}
}

// twiceIn: the verdict on a book whose records i and j are of one key.
func twiceIn(k int, n, i, j int64) evidence.Verdict {
	b := bookOf(k, int(n))
	b.records[i], b.records[j] = rec(path, 1), rec(path, 2)
	return evidence.Verdict{Kind: evidence.Twice, Head: b.head(n), I: i, J: j, A: b.records[i], B: b.records[j], PA: b.recordProof(n, i), PB: b.recordProof(n, j)}
}

// with: a verdict that is changed.
func with(v evidence.Verdict, change func(v *evidence.Verdict)) evidence.Verdict {
	change(&v)
	return v
}

func TestCollisionHolds(t *testing.T) { // P18.5: two unlike strings of one hash, whatever the key, and nothing else
	v := collision()
	for _, key := range [][2]string{{path, version}, {"", ""}, {"x", "\x00"}} {
		if !evidence.Holds(1, v, key[0], key[1]) {
			t.Errorf("a collision doesn't hold for %q", key)
		}
	}
	turned := evidence.Verdict{Kind: evidence.Collision, Pair: proof.Pair{A: v.Pair.B, B: v.Pair.A}}
	if !evidence.Holds(1, turned, path, version) {
		t.Error("a collision that is turned about doesn't hold")
	}
	nothing := with(v, func(v *evidence.Verdict) { v.PA, v.PB = []api.Hash{}, []api.Hash{} })
	if !evidence.Holds(1, nothing, path, version) {
		t.Error("a collision with lists that are empty doesn't hold")
	}
	for _, k := range []int{0, 2, 31, 32, 33, -1, math.MaxInt, math.MinInt} {
		if hashOf(k, v.Pair.A) != hashOf(k, v.Pair.B) && evidence.Holds(k, v, path, version) {
			t.Errorf("a collision of strength 1 holds with strength %d", k)
		}
	}
	for what, w := range map[string]evidence.Verdict{
		"a head's origin":   with(v, func(v *evidence.Verdict) { v.Head.Origin = origin }),
		"a head's size":     with(v, func(v *evidence.Verdict) { v.Head.Size = 1 }),
		"a head's root":     with(v, func(v *evidence.Verdict) { v.Head.Root[31] = 1 }),
		"the empty head":    with(v, func(v *evidence.Verdict) { v.Head = note.Head{Root: hashOf(1)} }),
		"I":                 with(v, func(v *evidence.Verdict) { v.I = 1 }),
		"J":                 with(v, func(v *evidence.Verdict) { v.J = -1 }),
		"A":                 with(v, func(v *evidence.Verdict) { v.A = "\x00" }),
		"B":                 with(v, func(v *evidence.Verdict) { v.B = rec(path) }),
		"PA":                with(v, func(v *evidence.Verdict) { v.PA = make([]api.Hash, 1) }),
		"PB":                with(v, func(v *evidence.Verdict) { v.PB = make([]api.Hash, 1) }),
		"like strings":      with(v, func(v *evidence.Verdict) { v.Pair.B = v.Pair.A }),
		"another string":    with(v, func(v *evidence.Verdict) { v.Pair.B = append(v.Pair.B[:len(v.Pair.B):len(v.Pair.B)], 1) }),
		"no strings":        with(v, func(v *evidence.Verdict) { v.Pair = proof.Pair{} }),
		"an empty one":      with(v, func(v *evidence.Verdict) { v.Pair.A = nil }),
		"all of another":    with(twiceIn(1, 4, 0, 2), func(w *evidence.Verdict) { w.Kind, w.Pair = v.Kind, v.Pair }),
		"a verdict's Twice": with(twiceIn(1, 4, 0, 2), func(w *evidence.Verdict) { w.Kind = v.Kind }),
	} {
		if evidence.Holds(1, w, path, version) {
			t.Errorf("a collision with %s holds", what)
		}
	}
}

func TestTwiceHolds(t *testing.T) { // P18.5: of all sizes and ids, for its key alone
	for _, k := range strengths {
		for n := int64(2); n <= 9; n++ {
			for i := range n {
				for j := i + 1; j < n; j++ {
					v := twiceIn(k, n, i, j)
					if !evidence.Holds(k, v, path, version) {
						t.Errorf("strength %d, %d and %d of %d: it doesn't hold", k, i, j, n)
					}
					if evidence.Holds(k, v, path, "v1.0.1") || evidence.Holds(k, v, "b.example", version) || evidence.Holds(k, v, "", "") {
						t.Errorf("strength %d, %d and %d of %d: it holds for another key", k, i, j, n)
					}
				}
			}
		}
	}
}

func TestTwiceThatDoesNotHold(t *testing.T) { // P18.5, P0.1: whatever is changed in it
	v := twiceIn(0, 7, 2, 6)
	b := bookOf(0, 7)
	b.records[2], b.records[5] = rec(path), rec(path)
	other := rec("b.example")
	fork := bookOf(0, 7)
	fork.records[2], fork.records[5] = rec(path, 1), other
	wrong := map[string]evidence.Verdict{
		"a string A":           with(v, func(v *evidence.Verdict) { v.Pair.A = []byte{0} }),
		"a string B":           with(v, func(v *evidence.Verdict) { v.Pair.B = []byte{0} }),
		"ids changed about":    with(v, func(v *evidence.Verdict) { v.I, v.J = v.J, v.I }),
		"all changed about":    with(v, func(v *evidence.Verdict) { v.I, v.J, v.A, v.B, v.PA, v.PB = v.J, v.I, v.B, v.A, v.PB, v.PA }),
		"records changed":      with(v, func(v *evidence.Verdict) { v.A, v.B = v.B, v.A }),
		"proofs changed":       with(v, func(v *evidence.Verdict) { v.PA, v.PB = v.PB, v.PA }),
		"A twice":              with(v, func(v *evidence.Verdict) { v.J, v.B, v.PB = v.I, v.A, v.PA }),
		"B twice":              with(v, func(v *evidence.Verdict) { v.I, v.A, v.PA = v.J, v.B, v.PB }),
		"I of -1":              with(v, func(v *evidence.Verdict) { v.I = -1 }),
		"I of the least":       with(v, func(v *evidence.Verdict) { v.I = math.MinInt64 }),
		"J beyond":             with(v, func(v *evidence.Verdict) { v.J = 7 }),
		"J of the greatest":    with(v, func(v *evidence.Verdict) { v.J = math.MaxInt64 }),
		"no A":                 with(v, func(v *evidence.Verdict) { v.A = "" }),
		"no B":                 with(v, func(v *evidence.Verdict) { v.B = "" }),
		"another A":            with(v, func(v *evidence.Verdict) { v.A = rec(path, 3) }),
		"another B":            with(v, func(v *evidence.Verdict) { v.B = rec(path, 3) }),
		"the same record":      {Kind: evidence.Twice, Head: b.head(7), I: 2, J: 5, A: b.records[2], B: b.records[5], PA: b.recordProof(7, 2), PB: b.recordProof(7, 5)},
		"a B of another key":   {Kind: evidence.Twice, Head: fork.head(7), I: 2, J: 5, A: fork.records[2], B: other, PA: fork.recordProof(7, 2), PB: fork.recordProof(7, 5)},
		"an A of another key":  {Kind: evidence.Twice, Head: fork.head(7), I: 1, J: 2, A: fork.records[1], B: fork.records[2], PA: fork.recordProof(7, 1), PB: fork.recordProof(7, 2)},
		"nothing but its kind": {Kind: evidence.Twice},
	}
	for _, p := range wrongProofs(v.PA) {
		wrong["another PA "+tell(p)] = with(v, func(v *evidence.Verdict) { v.PA = p })
	}
	for _, p := range wrongProofs(v.PB) {
		wrong["another PB "+tell(p)] = with(v, func(v *evidence.Verdict) { v.PB = p })
	}
	for _, h := range wrongHeads(v.Head) {
		if h.Origin == v.Head.Origin {
			wrong["another head "+tell(h)] = with(v, func(v *evidence.Verdict) { v.Head = h })
		}
	}
	for _, kind := range []int{0, 3, -1, 256 + evidence.Twice, math.MaxInt, math.MinInt} {
		wrong["another kind "+tell(kind)] = with(v, func(v *evidence.Verdict) { v.Kind = kind })
	}
	for what, w := range wrong {
		if evidence.Holds(0, w, path, version) {
			t.Errorf("with %s it holds", what)
		}
	}
	if evidence.Holds(1, v, path, version) || evidence.Holds(31, v, path, version) {
		t.Error("it holds by another strength")
	}
}

func TestTwiceOfAnyOrigin(t *testing.T) { // P18.5: the head's origin is not looked at
	for _, origin := range []string{"", "p", "\x00\xff", "a b\n"} {
		v := twiceIn(0, 5, 1, 4)
		v.Head.Origin = origin
		v.Pair = proof.Pair{A: []byte{}, B: []byte{}}
		if !evidence.Holds(0, v, path, version) {
			t.Errorf("of the origin %q it doesn't hold", origin)
		}
	}
}

func TestTwiceOfWhatIsNoRecord(t *testing.T) { // P18.5: modver.ParseRecord takes both
	for _, x := range []string{"", "x", "a.example v1.0.0 h1:x\n"} {
		for _, v := range []evidence.Verdict{{I: 0, J: 1, A: x, B: rec(path)}, {I: 0, J: 1, A: rec(path), B: x}} {
			l, r := leafOf(0, v.A), leafOf(0, v.B)
			v.Kind, v.Head, v.PA, v.PB = evidence.Twice, head(2, nodeOf(0, l, r)), []api.Hash{r}, []api.Hash{l}
			if evidence.Holds(0, v, path, version) || evidence.Holds(0, v, "", "") {
				t.Errorf("with %q as a record it holds", x)
			}
		}
	}
}

func TestTwiceAtOneId(t *testing.T) { // P18.5: I is below J, though both records check there
	r := rec(path)
	s := meeting(path, leafOf(1, r))
	b := bookOf(1, 4)
	for i := range b.size() {
		b.records[i] = r
		v := evidence.Verdict{Kind: evidence.Twice, Head: b.head(4), I: i, J: i, A: r, B: s, PA: b.recordProof(4, i), PB: b.recordProof(4, i)}
		if evidence.Holds(1, v, path, version) {
			t.Errorf("two records at the id %d alone hold", i)
		}
		b.records[i] = bookOf(1, 4).records[i]
	}
}

func TestVerdictsOfNoKind(t *testing.T) { // P18.5: any other Kind
	v := collision()
	for _, kind := range []int{0, 3, -1, 256 + evidence.Collision, math.MaxInt, math.MinInt} {
		v.Kind = kind
		if evidence.Holds(1, v, path, version) || evidence.Holds(1, evidence.Verdict{Kind: kind}, path, version) {
			t.Errorf("a verdict of kind %d holds", kind)
		}
	}
}
