package proof_test

import (
	"math/rand"
	"slices"
	"testing"

	"ledger/api"
	"ledger/proof"
)

func climbsRecord(t *testing.T, k int, p []api.Hash, n, i int64, leaf, want api.Hash) {
	t.Helper()
	if h, e := proof.ClimbRecord(k, p, n, i, leaf); h != want || e != api.OK {
		t.Errorf("ClimbRecord, strength %d, (%d, %d): %x, %d, want %x", k, n, i, h, int(e), want)
	}
}

func climbsTree(t *testing.T, k int, p []api.Hash, n, m int64, old, fresh, aged api.Hash) {
	t.Helper()
	if h, o, e := proof.ClimbTree(k, p, n, m, old); h != fresh || o != aged || e != api.OK {
		t.Errorf("ClimbTree, strength %d, (%d, %d): %x, %x, %d, want %x, %x", k, n, m, h, o, int(e), fresh, aged)
	}
}

func TestClimbsOfTheExamples(t *testing.T) { // P9.3
	for _, k := range strengths {
		l := letters(k)
		node := func(a, b api.Hash) api.Hash { return trueNode(k, a, b) }
		ab, cd, efg := node(l[0], l[1]), node(l[2], l[3]), node(node(l[4], l[5]), l[6])
		root := node(node(ab, cd), efg)
		climbsRecord(t, k, []api.Hash{l[5], l[6], node(ab, cd)}, 7, 4, l[4], root)
		climbsTree(t, k, []api.Hash{l[2], l[3], ab, efg}, 7, 3, api.Hash{}, root, node(ab, l[2]))
		climbsRecord(t, k, nil, 1, 0, l[3], l[3])
		climbsTree(t, k, nil, 5, 5, l[3], l[3], l[3])
		climbsTree(t, k, l[:1], 3, 2, l[3], node(l[3], l[0]), l[3])
	}
}

func TestClimbsOfAnyHashes(t *testing.T) { // P9.3: in the document's words, of proofs that are none
	all := someHashes(12)
	for _, k := range []int{0, 1, 5, 31, 33, -1} {
		for n := int64(1); n <= 33; n++ {
			for i := range n {
				p := all[:len(recordWay(i, area{0, n}))]
				climbsRecord(t, k, p, n, i, all[11], climbedRecord(k, p, n, i, all[11]).fresh[area{0, n}])
				m := i + 1
				p = all[:len(treeWay(m, area{0, n}))]
				s := climbedTree(k, p, n, m, all[11])
				climbsTree(t, k, p, n, m, all[11], s.fresh[area{0, n}], s.old[area{0, m}])
			}
		}
	}
}

func TestClimbsOfGreatTrees(t *testing.T) { // P9.3, P9.10: as great as 2^48, at once
	chance := rand.New(rand.NewSource(93))
	all := someHashes(51)
	for _, n := range sizes(chance) {
		for _, i := range ids(chance, n) {
			p := all[:len(recordWay(i, area{0, n}))]
			climbsRecord(t, 0, p, n, i, all[50], climbedRecord(0, p, n, i, all[50]).fresh[area{0, n}])
			p = all[:len(treeWay(i+1, area{0, n}))]
			s := climbedTree(0, p, n, i+1, all[50])
			climbsTree(t, 0, p, n, i+1, all[50], s.fresh[area{0, n}], s.old[area{0, i + 1}])
		}
	}
}

func TestClimbOfAPowerOfTwoKeepsTheOldRoot(t *testing.T) { // P9.3: whatever the proof is
	all := someHashes(12)
	for m := int64(1); m <= 64; m *= 2 {
		for n := m; n <= 70; n++ {
			if _, o, e := proof.ClimbTree(3, all[:len(treeWay(m, area{0, n}))], n, m, all[11]); o != all[11] || e != api.OK {
				t.Errorf("ClimbTree(%d, %d): %x, %d, want the old root", n, m, o, int(e))
			}
		}
	}
}

func TestTrueProofsCheck(t *testing.T) { // P9.3, P9.4
	all := someHashes(33)
	for _, k := range []int{0, 1, 31} {
		for n := int64(1); n <= 33; n++ {
			root := trueRoot(k, all, area{0, n})
			for i := range n {
				p := trueRecord(k, all, n, i)
				climbsRecord(t, k, p, n, i, all[i], root)
				if e := proof.CheckRecord(k, p, n, root, i, all[i]); e != api.OK {
					t.Errorf("CheckRecord, strength %d, (%d, %d): %d", k, n, i, int(e))
				}
				m := i + 1
				p, old := trueTree(k, all, n, m), trueRoot(k, all, area{0, m})
				climbsTree(t, k, p, n, m, old, root, old)
				if e := proof.CheckTree(k, p, n, root, m, old); e != api.OK {
					t.Errorf("CheckTree, strength %d, (%d, %d): %d", k, n, m, int(e))
				}
			}
		}
	}
}

// turned: with one bit of one byte turned.
func turned(h api.Hash, at int) api.Hash {
	h[at%32] ^= 1 << (at % 8)
	return h
}

func TestCheckRecordFindsEachTurnedHash(t *testing.T) { // P9.4: of the proof, the root, the leaf
	all := someHashes(13)
	for n := int64(1); n <= 13; n++ {
		root := trueRoot(0, all, area{0, n})
		for i := range n {
			p := trueRecord(0, all, n, i)
			for j := range p {
				bad := slices.Clone(p)
				bad[j] = turned(bad[j], j+int(i))
				if e := proof.CheckRecord(0, bad, n, root, i, all[i]); e != api.ErrProof {
					t.Errorf("(%d, %d), hash %d turned: %d", n, i, j, int(e))
				}
			}
			for at := range 32 {
				if e := proof.CheckRecord(0, p, n, turned(root, at), i, all[i]); e != api.ErrProof {
					t.Errorf("(%d, %d), the root turned: %d", n, i, int(e))
				}
				if e := proof.CheckRecord(0, p, n, root, i, turned(all[i], at)); e != api.ErrProof {
					t.Errorf("(%d, %d), the leaf turned: %d", n, i, int(e))
				}
			}
		}
	}
}

func TestCheckTreeFindsEachTurnedHash(t *testing.T) { // P9.4: of the proof, either root
	all := someHashes(13)
	for n := int64(1); n <= 13; n++ {
		root := trueRoot(0, all, area{0, n})
		for m := int64(1); m <= n; m++ {
			p, old := trueTree(0, all, n, m), trueRoot(0, all, area{0, m})
			for j := range p {
				bad := slices.Clone(p)
				bad[j] = turned(bad[j], j+int(m))
				if e := proof.CheckTree(0, bad, n, root, m, old); e != api.ErrProof {
					t.Errorf("(%d, %d), hash %d turned: %d", n, m, j, int(e))
				}
			}
			for at := range 32 {
				if e := proof.CheckTree(0, p, n, turned(root, at), m, old); e != api.ErrProof {
					t.Errorf("(%d, %d), the new root turned: %d", n, m, int(e))
				}
				if e := proof.CheckTree(0, p, n, root, m, turned(old, at)); e != api.ErrProof {
					t.Errorf("(%d, %d), the old root turned: %d", n, m, int(e))
				}
			}
		}
	}
}

func TestCheckTreeFindsTheOldRootAlone(t *testing.T) { // P9.4: the new root is right, and the old one isn't the proof's
	all := someHashes(8)
	p := trueTree(0, all, 7, 3)
	root := trueRoot(0, all, area{0, 7})
	if e := proof.CheckTree(0, p, 7, root, 3, all[0]); e != api.ErrProof {
		t.Errorf("another old root: %d", int(e))
	}
	fresh, aged, _ := proof.ClimbTree(0, all[:4], 7, 3, api.Hash{})
	if e := proof.CheckTree(0, all[:4], 7, fresh, 3, aged); e != api.OK {
		t.Errorf("the two roots of a climb: %d", int(e))
	}
	if e := proof.CheckTree(0, all[:4], 7, all[5], 3, aged); e != api.ErrProof {
		t.Errorf("another new root: %d", int(e))
	}
	if e := proof.CheckTree(0, nil, 5, all[5], 5, all[6]); e != api.ErrProof {
		t.Errorf("two roots of one size: %d", int(e))
	}
}

func TestProofsAreOfOneRecordAlone(t *testing.T) { // P9.4: not of another one of the same tree
	all := someHashes(16)
	root := trueRoot(0, all, area{0, 16})
	for i := range int64(16) {
		for j := range int64(16) {
			want := api.ErrProof
			if i == j {
				want = api.OK
			}
			if e := proof.CheckRecord(0, trueRecord(0, all, 16, i), 16, root, j, all[i]); e != want {
				t.Errorf("the proof of %d for %d: %d, want %d", i, j, int(e), int(want))
			}
		}
	}
}

// recordErrors: what the calls with a record proof refuse alike.
func recordErrors(t *testing.T, p []api.Hash, n, i int64, want api.Errno) {
	t.Helper()
	if h, e := proof.ClimbRecord(0, p, n, i, api.Hash{7}); h != (api.Hash{}) || e != want {
		t.Errorf("ClimbRecord of %d hashes (%d, %d): %x, %d, want %d", len(p), n, i, h, int(e), int(want))
	}
	if e := proof.CheckRecord(0, p, n, api.Hash{8}, i, api.Hash{7}); e != want {
		t.Errorf("CheckRecord of %d hashes (%d, %d): %d, want %d", len(p), n, i, int(e), int(want))
	}
}

// treeErrors: what the calls with a tree proof refuse alike.
func treeErrors(t *testing.T, p []api.Hash, n, m int64, want api.Errno) {
	t.Helper()
	if h, o, e := proof.ClimbTree(0, p, n, m, api.Hash{7}); h != (api.Hash{}) || o != (api.Hash{}) || e != want {
		t.Errorf("ClimbTree of %d hashes (%d, %d): %x, %x, %d, want %d", len(p), n, m, h, o, int(e), int(want))
	}
	if e := proof.CheckTree(0, p, n, api.Hash{8}, m, api.Hash{7}); e != want {
		t.Errorf("CheckTree of %d hashes (%d, %d): %d, want %d", len(p), n, m, int(e), int(want))
	}
}

func TestClimbsRefuseNumbers(t *testing.T) { // P9.3, P9.4, P0.1: ahead of the length
	all := someHashes(50)
	for _, p := range [][]api.Hash{nil, all[:1], all[:3], all} {
		for _, c := range noRecords() {
			recordErrors(t, p, c[0], c[1], api.ErrArg)
		}
		for _, c := range noTrees() {
			treeErrors(t, p, c[0], c[1], api.ErrArg)
		}
	}
}

func TestClimbsRefuseLengths(t *testing.T) { // P9.3, P9.4, P0.1: each but the right one, ahead of the roots
	all := someHashes(60)
	for n := int64(1); n <= 20; n++ {
		for i := range n {
			for length := range all {
				if length != len(recordWay(i, area{0, n})) {
					recordErrors(t, all[:length], n, i, api.ErrProofLength)
				}
				if length != len(treeWay(i+1, area{0, n})) {
					treeErrors(t, all[:length], n, i+1, api.ErrProofLength)
				}
			}
		}
	}
	recordErrors(t, make([]api.Hash, 1<<16), 1<<48, 5, api.ErrProofLength)
	treeErrors(t, make([]api.Hash, 1<<16), 1<<48, 5, api.ErrProofLength)
}
