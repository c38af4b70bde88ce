package proof_test

import (
	"bytes"
	"math/rand"
	"slices"
	"testing"

	"ledger/api"
	"ledger/proof"
)

// lifting: what Lift is asked.
type lifting struct {
	k      int
	m      int64
	old    api.Hash
	i      int64
	leaf   api.Hash
	record []api.Hash
	n      int64
	root   api.Hash
	tree   []api.Hash
}

func (l lifting) ask() ([]api.Hash, proof.Pair, api.Errno) {
	return proof.Lift(l.k, l.m, l.old, l.i, l.leaf, l.record, l.n, l.root, l.tree)
}

// trueLifting: of a tree with these leaves.
func trueLifting(k int, leaves []api.Hash, m, i, n int64) lifting {
	return lifting{k, m, trueRoot(k, leaves, area{0, m}), i, leaves[i], trueRecord(k, leaves, m, i), n, trueRoot(k, leaves, area{0, n}), trueTree(k, leaves, n, m)}
}

func lifts(t *testing.T, l lifting, want []api.Hash) {
	t.Helper()
	if got, pair, e := l.ask(); !slices.Equal(got, want) || pair.A != nil || pair.B != nil || e != api.OK {
		t.Errorf("Lift of %d from %d to %d, strength %d: %x, %x, %d, want %x", l.i, l.m, l.n, l.k, got, pair, int(e), want)
	}
}

func liftRefuses(t *testing.T, what string, l lifting, want api.Errno) {
	t.Helper()
	if got, pair, e := l.ask(); len(got) != 0 || pair.A != nil || pair.B != nil || e != want {
		t.Errorf("Lift of %d from %d to %d, %s: %x, %x, %d, want %d", l.i, l.m, l.n, what, got, pair, int(e), int(want))
	}
}

func TestLiftOfTheExamples(t *testing.T) { // P9.8
	for _, k := range strengths {
		l := letters(k)
		ab, cd, efg := trueNode(k, l[0], l[1]), trueNode(k, l[2], l[3]), trueNode(k, trueNode(k, l[4], l[5]), l[6])
		three, all := trueNode(k, ab, l[2]), trueNode(k, trueNode(k, ab, cd), efg)
		lifts(t, lifting{k, 3, three, 0, l[0], []api.Hash{l[1], l[2]}, 7, all, []api.Hash{l[2], l[3], ab, efg}}, []api.Hash{l[1], cd, efg})
		lifts(t, lifting{k, 2, ab, 0, l[0], l[1:2], 3, three, l[2:3]}, l[1:3])
	}
}

func TestLiftOfTrueProofs(t *testing.T) { // P9.8: the record proof of the greater tree; with m = n the proof itself
	all := someHashes(34)
	for _, k := range []int{0, 1, 31} {
		for n := int64(1); n <= 34; n++ {
			for m := int64(1); m <= n; m++ {
				for i := range m {
					lifts(t, trueLifting(k, all, m, i, n), trueRecord(k, all, n, i))
				}
			}
		}
	}
}

func TestLiftInGreatTrees(t *testing.T) { // P9.8, P9.10: all leaves are the same, so that the proofs are soon made
	const leaf = "one record for all"
	roots := map[area]api.Hash{}
	var rootOf func(width int64) api.Hash
	rootOf = func(width int64) api.Hash {
		r := area{0, width}
		if h, ok := roots[r]; ok {
			return h
		}
		h := trueLeaf(0, []byte(leaf))
		if width > 1 {
			c := cutOf(r)
			h = trueNode(0, rootOf(c), rootOf(width-c))
		}
		roots[r] = h
		return h
	}
	hashes := func(way []area) (list []api.Hash) {
		for _, r := range way {
			list = append(list, rootOf(r.b-r.a))
		}
		return list
	}
	chance := rand.New(rand.NewSource(98))
	for _, n := range sizes(chance) {
		for _, m := range ids(chance, n) {
			m++
			for _, i := range ids(chance, m)[:6] {
				l := lifting{0, m, rootOf(m), i, rootOf(1), hashes(recordWay(i, area{0, m})), n, rootOf(n), hashes(treeWay(m, area{0, n}))}
				lifts(t, l, hashes(recordWay(i, area{0, n})))
			}
		}
	}
}

// bent: the lifting with a record proof that leads to the same old root by other hashes below its highest ones, of strength 1; as often as chance finds one.
func bent(chance *rand.Rand, l lifting) (lifting, bool) {
	low := chance.Intn(len(l.record) + 1)
	for range 2000 {
		l.record = slices.Concat(smallHashes(chance, low), l.record[low:])
		l.leaf = smallHash(chance)
		if climbedRecord(l.k, l.record, l.m, l.i, l.leaf).fresh[area{0, l.m}] == l.old {
			return l, true
		}
	}
	return l, false
}

// bentTree: likewise with a tree proof; with m a power of two every proof will do, and the new root is the one to which it leads.
func bentTree(chance *rand.Rand, l lifting) (lifting, bool) {
	for range 2000 {
		at := chance.Intn(len(l.tree) + 1)
		l.tree = slices.Concat(smallHashes(chance, at), l.tree[at:])
		s := climbedTree(l.k, l.tree, l.n, l.m, l.old)
		if s.old[area{0, l.m}] == l.old {
			l.root = s.fresh[area{0, l.n}]
			return l, true
		}
	}
	return l, false
}

func TestLiftByChance(t *testing.T) { // P9.8: where the two proofs part, and where they go together though they are none of one tree
	chance := rand.New(rand.NewSource(908))
	parted, lifted := 0, 0
	for range 4000 {
		n := 1 + chance.Int63n(17)
		m := 1 + chance.Int63n(n)
		leaves := smallHashes(chance, 17)
		l := trueLifting(1, leaves, m, chance.Int63n(m), n)
		ok := true
		if chance.Intn(3) == 0 {
			l, ok = bentTree(chance, l)
		}
		if ok && chance.Intn(4) > 0 {
			l, ok = bent(chance, l)
		}
		if !ok {
			continue
		}
		got, pair, e := l.ask()
		want, wantPair, wantErrno := trueLift(1, l.m, l.old, l.i, l.leaf, l.record, l.n, l.tree)
		if !slices.Equal(got, want) || !bytes.Equal(pair.A, wantPair.A) || !bytes.Equal(pair.B, wantPair.B) || e != wantErrno {
			t.Fatalf("Lift of %d from %d to %d: %x, %x, %d, want %x, %x, %d", l.i, m, n, got, pair, int(e), want, wantPair, int(wantErrno))
		}
		if e == api.ErrParts {
			parted++
			if len(got) != 0 || !proof.Collides(1, pair) {
				t.Fatalf("Lift of %d from %d to %d: %x beside the pair %x", l.i, m, n, got, pair)
			}
			continue
		}
		if proof.CheckRecord(1, got, n, l.root, l.i, l.leaf) != api.OK || pair.A != nil || pair.B != nil {
			t.Fatalf("Lift of %d from %d to %d: the proof does not lead to the root", l.i, m, n)
		}
		if !slices.Equal(got, trueRecord(1, leaves, n, l.i)) {
			lifted++
		}
	}
	if parted < 200 || lifted < 200 {
		t.Errorf("%d parted, %d lifted to proofs of no tree: too few", parted, lifted)
	}
}

func TestLiftPartsBelowTheRoot(t *testing.T) { // P9.8: at each node of the tree of 7 down to its seed
	chance := rand.New(rand.NewSource(11))
	depths := map[int]int{}
	for range 600 {
		l := trueLifting(1, smallHashes(chance, 9), 7, 6, 9)
		l, ok := bent(chance, l)
		if !ok {
			continue
		}
		_, pair, e := l.ask()
		_, want, wantErrno := trueLift(1, l.m, l.old, l.i, l.leaf, l.record, l.n, l.tree)
		if e != wantErrno || !bytes.Equal(pair.A, want.A) || !bytes.Equal(pair.B, want.B) {
			t.Fatalf("%x, %d, want %x, %d", pair, int(e), want, int(wantErrno))
		}
		if e == api.ErrParts {
			s := climbedRecord(1, l.record, l.m, l.i, l.leaf)
			for depth, c := range []int64{4, 6} {
				if bytes.Equal(pair.A, nodeBytes(l.record[len(l.record)-1-depth], s.fresh[area{c, 7}])) {
					depths[depth]++
				}
			}
		}
	}
	if depths[0] == 0 || depths[1] == 0 {
		t.Errorf("parted at: %v", depths)
	}
}

func TestLiftOrderOfErrors(t *testing.T) { // P9.8, P0.1
	all := someHashes(9)
	right := trueLifting(0, all, 3, 1, 7)
	lifts(t, right, trueRecord(0, all, 7, 1))
	for what, change := range map[string]func(l *lifting){
		"record 3 of 3":           func(l *lifting) { l.i = 3 },
		"record -1":               func(l *lifting) { l.i = -1 },
		"an old tree of 0":        func(l *lifting) { l.m, l.i = 0, 0 },
		"an old tree of -1":       func(l *lifting) { l.m = -1 },
		"a tree of 2":             func(l *lifting) { l.n = 2 },
		"a tree of 0":             func(l *lifting) { l.n = 0 },
		"a tree of -1":            func(l *lifting) { l.n = -1 },
		"a tree of 2^48 + 1":      func(l *lifting) { l.n = 1<<48 + 1 },
		"two trees of 2^48 + 1":   func(l *lifting) { l.n, l.m = 1<<48+1, 1<<48+1 },
		"an old tree of 2^48 + 1": func(l *lifting) { l.m = 1<<48 + 1 },
	} {
		l := right
		change(&l)
		liftRefuses(t, what, l, api.ErrArg)
		l.record, l.tree, l.old = nil, all, all[8]
		liftRefuses(t, what+", and proofs of other lengths", l, api.ErrArg)
	}
	for length := range all {
		l := right
		if l.record = all[:length]; length != len(right.record) {
			liftRefuses(t, "another length of the record proof", l, api.ErrProofLength)
			l.old = all[8]
			liftRefuses(t, "another length of the record proof, another old root", l, api.ErrProofLength)
		}
		l = right
		if l.tree = all[:length]; length != len(right.tree) {
			liftRefuses(t, "another length of the tree proof", l, api.ErrProofLength)
			l.leaf = all[8]
			liftRefuses(t, "another length of the tree proof, another leaf", l, api.ErrProofLength)
		}
	}
}

func TestLiftFindsEachTurnedHash(t *testing.T) { // P9.8: of either proof, either root, the leaf
	all := someHashes(9)
	for n := int64(1); n <= 9; n++ {
		for m := int64(1); m <= n; m++ {
			for i := range m {
				right := trueLifting(0, all, m, i, n)
				l := right
				l.old = turned(l.old, int(i))
				liftRefuses(t, "the old root turned", l, api.ErrProof)
				l = right
				l.root = turned(l.root, int(i))
				liftRefuses(t, "the new root turned", l, api.ErrProof)
				l = right
				l.leaf = turned(l.leaf, int(i))
				liftRefuses(t, "the leaf turned", l, api.ErrProof)
				for j := range right.record {
					l = right
					l.record = slices.Clone(l.record)
					l.record[j] = turned(l.record[j], j)
					liftRefuses(t, "a hash of the record proof turned", l, api.ErrProof)
				}
				for j := range right.tree {
					l = right
					l.tree = slices.Clone(l.tree)
					l.tree[j] = turned(l.tree[j], j)
					liftRefuses(t, "a hash of the tree proof turned", l, api.ErrProof)
				}
			}
		}
	}
}

func TestLiftFindsATreeProofOfAnotherTree(t *testing.T) { // P9.8: it leads to the new root, and from another old one
	all := someHashes(18)
	for n := int64(2); n <= 9; n++ {
		for m := int64(1); m < n; m++ {
			if isWhole(area{0, m}) { // the old root itself is climbed from, so that it can't be another
				continue
			}
			l := trueLifting(0, all, m, m/2, n)
			other := trueLifting(0, all[9:], m, m/2, n)
			l.tree, l.root = other.tree, other.root
			liftRefuses(t, "with another tree's proof and root", l, api.ErrProof)
			l.old = other.old
			liftRefuses(t, "with another tree's proof and roots", l, api.ErrProof)
		}
	}
}
