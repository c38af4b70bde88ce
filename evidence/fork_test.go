package evidence_test

import (
	"bytes"
	"math/rand"
	"strings"
	"testing"

	"ledger/api"
	"ledger/client"
	"ledger/evidence"
	"ledger/note"
)

// keys: of a drill, which cost little.
func keys(name string, alg int, seed byte) (signer, verifier string) {
	signer, verifier, e := note.Generate(name, alg, [32]byte{seed})
	if e != api.OK {
		panic(e)
	}
	return signer, verifier
}

func verifier() string {
	_, v := keys(origin, note.AlgDrill, 1)
	return v
}

// signedText: by the log's key.
func signedText(text string) []byte {
	signer, _ := keys(origin, note.AlgDrill, 1)
	m, e := note.Sign(text, []string{signer})
	if e != api.OK {
		panic(e)
	}
	return m
}

func signed(h note.Head) []byte {
	text, e := note.FormatHead(h)
	if e != api.OK {
		panic(e)
	}
	return signedText(text)
}

// turned: with one bit of the text turned, under the signature that it had.
func turned(m []byte) []byte {
	m = bytes.Clone(m)
	m[0] ^= 1
	return m
}

func TestForksOfAllSizes(t *testing.T) { // P18.7: of two books that part at a record, and of two that don't
	for _, k := range []int{0, 2} {
		b := bookOf(k, 9)
		for at := range b.size() {
			other := book{k, append([]string(nil), b.records...)}
			other.records[at] = rec(path, 9)
			for n := int64(1); n <= b.size(); n++ {
				for m := int64(1); m <= n; m++ {
					f := client.Fork{Small: signed(b.head(m)), Great: signed(other.head(n)), Root: other.head(m).Root, Proof: other.treeProof(n, m)}
					e := api.OK
					if m <= at {
						e = api.ErrNothing
					}
					if got := evidence.CheckFork(k, origin, verifier(), f); got != e {
						t.Errorf("strength %d, parting at %d, sizes %d and %d: %d; want %d", k, at, m, n, int(got), int(e))
					}
					f.Root = b.head(m).Root
					if m > at {
						e = api.ErrProof
					}
					if got := evidence.CheckFork(k, origin, verifier(), f); got != e {
						t.Errorf("strength %d, parting at %d, sizes %d and %d, the old root: %d; want %d", k, at, m, n, int(got), int(e))
					}
					f.Small, f.Great = f.Great, f.Small
					if got := evidence.CheckFork(k, origin, verifier(), f); m < n && got != api.ErrArg {
						t.Errorf("strength %d, sizes %d and %d, changed about: %d", k, n, m, int(got))
					}
				}
			}
		}
	}
}

func TestForkErrorsInTheirOrder(t *testing.T) { // P18.7, P0.1: each fault beside all that are named behind it
	x := api.Hash{3}
	good := signed(head(2, nodeOf(0, api.Hash{2}, x)))
	small := signed(head(1, api.Hash{1}))
	strange, stranger := keys("stranger", note.AlgDrill, 2)
	foreign, _ := note.Sign("p\n1\n", []string{strange})
	word, noOrigin, none := signedText("hello\n"), signed(note.Head{Origin: "p", Size: 3}), signed(head(0, api.Hash{}))
	long := append(bytes.Repeat([]byte("x"), api.MaxNote), '\n')
	for what, c := range map[string]struct {
		small, great []byte
		root         api.Hash
		proof        []api.Hash
		e            api.Errno
	}{
		"Small too long":          {long, nil, api.Hash{}, nil, api.ErrLong},
		"no note":                 {nil, long, api.Hash{}, nil, api.ErrNote},
		"a false signature":       {turned(small), nil, api.Hash{}, nil, api.ErrSignature},
		"another's signature":     {foreign, nil, api.Hash{}, nil, api.ErrUnsigned},
		"Great too long":          {word, long, api.Hash{}, nil, api.ErrLong},
		"no second note":          {word, []byte("x"), api.Hash{}, nil, api.ErrNote},
		"a second false one":      {word, turned(small), api.Hash{}, nil, api.ErrSignature},
		"another's second one":    {word, foreign, api.Hash{}, nil, api.ErrUnsigned},
		"Small no head":           {word, noOrigin, api.Hash{}, nil, api.ErrHead},
		"Great no head":           {noOrigin, word, api.Hash{}, nil, api.ErrHead},
		"Small of another origin": {noOrigin, small, api.Hash{}, nil, api.ErrOrigin},
		"Great of another origin": {none, noOrigin, api.Hash{}, nil, api.ErrOrigin},
		"Small of no records":     {none, good, api.Hash{}, nil, api.ErrArg},
		"both of no records":      {none, none, api.Hash{}, nil, api.ErrArg},
		"Small the greater":       {good, small, api.Hash{}, nil, api.ErrArg},
		"Great of no records":     {small, none, api.Hash{}, nil, api.ErrArg},
		"no proof":                {small, good, api.Hash{1}, nil, api.ErrProofLength},
		"a proof too long":        {small, good, api.Hash{1}, []api.Hash{x, x}, api.ErrProofLength},
		"one size, with a proof":  {small, small, api.Hash{1}, []api.Hash{x}, api.ErrProofLength},
		"a false proof":           {small, good, api.Hash{1}, []api.Hash{x}, api.ErrProof},
		"one size, another root":  {small, small, api.Hash{2}, nil, api.ErrProof},
		"the same head":           {small, small, api.Hash{1}, nil, api.ErrNothing},
		"a fork":                  {small, good, api.Hash{2}, []api.Hash{x}, api.OK},
	} {
		f := client.Fork{Small: c.small, Great: c.great, Root: c.root, Proof: c.proof}
		want(t, "CheckFork: "+what, evidence.CheckFork(0, origin, verifier(), f), c.e)
	}
	f := client.Fork{Small: small, Great: good, Root: api.Hash{2}, Proof: []api.Hash{x}}
	want(t, "CheckFork under another's key", evidence.CheckFork(0, origin, stranger, f), api.ErrUnsigned)
	want(t, "CheckFork of another origin", evidence.CheckFork(0, "p", verifier(), f), api.ErrOrigin)
	want(t, "CheckFork of no origin", evidence.CheckFork(0, "", verifier(), f), api.ErrOrigin)
	want(t, "CheckFork of nothing", evidence.CheckFork(0, origin, verifier(), client.Fork{}), api.ErrNote)
}

func TestForkUnderKeys(t *testing.T) { // P18.7: the verifier is looked at as note.Open looks at it, with Small
	f := client.Fork{Small: signed(head(1, api.Hash{1})), Great: signed(head(1, api.Hash{2})), Root: api.Hash{2}}
	signer, _ := keys(origin, note.AlgDrill, 1)
	_, v, _ := strings.Cut(verifier(), "+")
	for text, e := range map[string]api.Errno{
		verifier():                     api.OK,
		"":                             api.ErrKeyText,
		"x":                            api.ErrKeyText,
		signer:                         api.ErrKeyText,
		"+" + v:                        api.ErrName,
		origin + "+b252d0cf+AQ==":      api.ErrAlg,
		"p+" + v:                       api.ErrKeyHash,
		strings.Repeat("x", 1025):      api.ErrKeyText,
		verifier() + "\n" + verifier(): api.ErrKeyText,
	} {
		if got := evidence.CheckFork(0, origin, text, f); got != e {
			t.Errorf("CheckFork under %q = %d; want %d", text, int(got), int(e))
		}
		long := f
		long.Small = make([]byte, api.MaxNote+1)
		want(t, "CheckFork of a long note", evidence.CheckFork(0, origin, text, long), api.ErrLong)
	}
	strong, public := keys(origin, note.AlgEd25519, 3)
	for _, m := range []*[]byte{&f.Small, &f.Great} {
		*m, _ = note.AddSignatures(*m, []string{strong})
	}
	want(t, "CheckFork of two signatures", evidence.CheckFork(0, origin, verifier(), f), api.OK)
	want(t, "CheckFork under the other key", evidence.CheckFork(0, origin, public, f), api.OK)
	f.Great = signed(head(1, api.Hash{2}))
	want(t, "CheckFork of heads that two keys have signed", evidence.CheckFork(0, origin, public, f), api.ErrUnsigned)
}

func TestForksOfGreatTrees(t *testing.T) { // P18.7: up to 2^48 records
	for _, n := range []int64{1<<48 - 1, 1 << 48} {
		for _, m := range []int64{1, 3, 1 << 47, n - 1} {
			way := treeWay(m, 0, n)
			p := make([]api.Hash, len(way))
			for i := range p {
				p[i] = api.Hash{byte(i), 5}
			}
			grown, before, _ := climbTree(0, p, m, 0, n, api.Hash{8})
			f := client.Fork{Small: signed(head(m, api.Hash{1})), Great: signed(head(n, grown)), Root: before, Proof: p}
			want(t, "CheckFork", evidence.CheckFork(0, origin, verifier(), f), api.OK)
			f.Small = signed(head(m, before))
			want(t, "CheckFork of heads that go together", evidence.CheckFork(0, origin, verifier(), f), api.ErrNothing)
			f.Proof[0][31] ^= 1
			want(t, "CheckFork with a false proof", evidence.CheckFork(0, origin, verifier(), f), api.ErrProof)
		}
	}
}

// trueFork: the chapter's words.
func trueFork(k int, origin, verifier string, f client.Fork) api.Errno {
	var heads []note.Head
	var none bool
	for _, m := range [][]byte{f.Small, f.Great} {
		n, e := note.Open(m, []string{verifier})
		if e != api.OK {
			return e
		}
		h, e := note.ParseHead(n.Text)
		none = none || e != api.OK
		heads = append(heads, h)
	}
	small, great := heads[0], heads[1]
	switch {
	case none:
		return api.ErrHead
	case small.Origin != origin || great.Origin != origin:
		return api.ErrOrigin
	case small.Size < 1 || small.Size > great.Size:
		return api.ErrArg
	}
	grown, before, ok := climbTree(k, f.Proof, small.Size, 0, great.Size, f.Root)
	switch {
	case !ok:
		return api.ErrProofLength
	case grown != great.Root || before != f.Root:
		return api.ErrProof
	case f.Root == small.Root:
		return api.ErrNothing
	}
	return api.OK
}

func TestForksAtRandom(t *testing.T) { // P18.7: of any two heads, with any root and proof
	r := rand.New(rand.NewSource(7))
	counts := map[api.Errno]int{}
	for _, k := range []int{0, 1} {
		b := bookOf(k, 7)
		other := book{k, append([]string(nil), b.records...)}
		other.records[2] = rec(path)
		pick := func() book { return []book{b, other}[r.Intn(2)] }
		for range 3000 {
			m, n := r.Int63n(8), r.Int63n(8)
			grown := pick()
			f := client.Fork{Small: signed(pick().head(m)), Great: signed(grown.head(n))}
			if m > 0 {
				f.Root = pick().head(m).Root
			}
			if 0 < m && m <= n {
				f.Proof = grown.treeProof(n, m)
			}
			if len(f.Proof) > 0 && r.Intn(4) == 0 {
				f.Proof[r.Intn(len(f.Proof))][0] ^= 1
			}
			if r.Intn(10) == 0 {
				f.Proof = append(f.Proof, api.Hash{})
			}
			if r.Intn(10) == 0 {
				f.Small = turned(f.Small)
			}
			if r.Intn(10) == 0 {
				f.Great = signedText("hello\n")
			}
			e := trueFork(k, origin, verifier(), f)
			counts[e]++
			if got := evidence.CheckFork(k, origin, verifier(), f); got != e {
				t.Fatalf("CheckFork(%d, %q) = %d; want %d", k, f, int(got), int(e))
			}
		}
	}
	for _, e := range []api.Errno{api.OK, api.ErrSignature, api.ErrHead, api.ErrArg, api.ErrProofLength, api.ErrProof, api.ErrNothing} {
		if counts[e] < 20 {
			t.Errorf("%d came up %d times", int(e), counts[e])
		}
	}
}
