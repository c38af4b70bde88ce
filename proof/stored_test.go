package proof_test

import (
	"math"
	"slices"
	"testing"

	"ledger/api"
	"ledger/proof"
	"ledger/tlog"
)

// built: the stored hashes of the tree with these leaves.
func built(t *testing.T, k int, leaves []api.Hash) []api.Hash {
	t.Helper()
	stored, e := tlog.Build(k, leaves)
	if e != api.OK {
		t.Fatalf("Build of %d leaves: %d", len(leaves), int(e))
	}
	return stored
}

// letters: the leaf hashes of the records a to g of one byte each.
func letters(k int) []api.Hash {
	var list []api.Hash
	for c := byte('a'); c <= 'g'; c++ {
		list = append(list, trueLeaf(k, []byte{c}))
	}
	return list
}

func recordIs(t *testing.T, k int, stored []api.Hash, n, i int64, want []api.Hash) {
	t.Helper()
	if p, e := proof.Record(k, stored, n, i); !slices.Equal(p, want) || e != api.OK {
		t.Errorf("Record, strength %d, of %d hashes (%d, %d): %x, %d, want %x", k, len(stored), n, i, p, int(e), want)
	}
}

func treeIs(t *testing.T, k int, stored []api.Hash, n, m int64, want []api.Hash) {
	t.Helper()
	if p, e := proof.Tree(k, stored, n, m); !slices.Equal(p, want) || e != api.OK {
		t.Errorf("Tree, strength %d, of %d hashes (%d, %d): %x, %d, want %x", k, len(stored), n, m, p, int(e), want)
	}
}

func TestProofsOfTheExamples(t *testing.T) { // P9.2
	for _, k := range strengths {
		l := letters(k)
		stored := built(t, k, l)
		ab, cd, ef := trueNode(k, l[0], l[1]), trueNode(k, l[2], l[3]), trueNode(k, l[4], l[5])
		recordIs(t, k, stored, 7, 4, []api.Hash{l[5], l[6], trueNode(k, ab, cd)})
		treeIs(t, k, stored, 7, 3, []api.Hash{l[2], l[3], ab, trueNode(k, ef, l[6])})
		recordIs(t, k, stored, 1, 0, nil)
		treeIs(t, k, stored, 5, 5, nil)
	}
}

func TestProofsByDefinition(t *testing.T) { // P9.2: of the first n of as many records or more
	all := someHashes(19)
	for _, k := range []int{0, 1, 5, 31, 33} {
		for size := int64(1); size <= 19; size++ {
			stored := built(t, k, all[:size])
			for n := int64(1); n <= size; n++ {
				for i := range n {
					recordIs(t, k, stored, n, i, trueRecord(k, all, n, i))
					treeIs(t, k, stored, n, i+1, trueTree(k, all, n, i+1))
				}
			}
		}
	}
}

func TestProofsTakeInnerHashesAsTheyAre(t *testing.T) { // P9.2: the Fold of the hashes at the places
	stored := someHashes(26) // of 15 records; none of them is its children's node hash
	folds := func(k int, way []area) []api.Hash {
		var list []api.Hash
		for _, places := range peaksAll(way) {
			h := stored[places[len(places)-1]]
			for j := len(places) - 2; j >= 0; j-- {
				h = trueNode(k, stored[places[j]], h)
			}
			list = append(list, h)
		}
		return list
	}
	for _, k := range strengths {
		for n := int64(1); n <= 15; n++ {
			for i := range n {
				recordIs(t, k, stored, n, i, folds(k, recordWay(i, area{0, n})))
				treeIs(t, k, stored, n, i+1, folds(k, treeWay(i+1, area{0, n})))
			}
		}
	}
}

func TestProofsOfTheGreatestTree(t *testing.T) { // P9.2: 65536 records, 131071 hashes
	all := someHashes(65536)
	stored := built(t, 0, all)
	root := trueRoot(0, all, area{0, 65536})
	for _, i := range []int64{0, 1, 32767, 32768, 40000, 65535} {
		p, e := proof.Record(0, stored, 65536, i)
		if e != api.OK || proof.CheckRecord(0, p, 65536, root, i, all[i]) != api.OK {
			t.Errorf("Record(65536, %d): %d hashes, %d", i, len(p), int(e))
		}
		p, e = proof.Tree(0, stored, 65536, i+1)
		if e != api.OK || proof.CheckTree(0, p, 65536, root, i+1, trueRoot(0, all, area{0, i + 1})) != api.OK {
			t.Errorf("Tree(65536, %d): %d hashes, %d", i+1, len(p), int(e))
		}
	}
}

func noProof(t *testing.T, what string, call func(int, []api.Hash, int64, int64) ([]api.Hash, api.Errno), stored []api.Hash, n, x int64, want api.Errno) {
	t.Helper()
	if p, e := call(0, stored, n, x); len(p) != 0 || e != want {
		t.Errorf("%s of %d hashes (%d, %d): %d hashes, %d, want %d", what, len(stored), n, x, len(p), int(e), int(want))
	}
}

func TestProofsRefuseNumbers(t *testing.T) { // P9.2, P0.1: above the records that there are, too
	for size := range int64(12) {
		stored := built(t, 0, someHashes(int(size)))
		for _, n := range []int64{size + 1, size + 2, 1 << 48, 1<<48 + 1, math.MaxInt64} {
			noProof(t, "Record", proof.Record, stored, n, 0, api.ErrArg)
			noProof(t, "Tree", proof.Tree, stored, n, 1, api.ErrArg)
			noProof(t, "Tree", proof.Tree, stored, n, n, api.ErrArg)
		}
		for _, c := range noRecords() {
			noProof(t, "Record", proof.Record, stored, c[0], c[1], api.ErrArg)
		}
		for _, c := range noTrees() {
			noProof(t, "Tree", proof.Tree, stored, c[0], c[1], api.ErrArg)
		}
	}
}

func TestProofsRefuseCounts(t *testing.T) { // P9.2, P0.1: ahead of the numbers
	counts := map[int64]int{}
	for n := range int64(60) {
		counts[countOf(n)]++
	}
	stored := someHashes(100)
	for count := range int64(100) {
		want := api.ErrArg
		if counts[count] == 0 {
			want = api.ErrStored
		}
		noProof(t, "Record", proof.Record, stored[:count], 0, -1, want)
		noProof(t, "Tree", proof.Tree, stored[:count], 0, -1, want)
	}
}

func TestProofsRefuseLongLists(t *testing.T) { // P9.2, P0.1: ahead of all else
	many := make([]api.Hash, 131073)
	for _, n := range []int64{1, 0, math.MaxInt64} {
		noProof(t, "Record", proof.Record, many[:131072], n, 0, api.ErrLong) // 65537 records
		noProof(t, "Tree", proof.Tree, many[:131072], n, 1, api.ErrLong)
		noProof(t, "Record", proof.Record, many, n, 0, api.ErrLong) // no tree's
		noProof(t, "Tree", proof.Tree, many, n, 1, api.ErrLong)
	}
	noProof(t, "Record", proof.Record, many[:131070], 1, 0, api.ErrStored)
	noProof(t, "Tree", proof.Tree, many[:131070], 1, 1, api.ErrStored)
	noProof(t, "Record", proof.Record, many[:131071], 65537, 0, api.ErrArg)
	noProof(t, "Tree", proof.Tree, many[:131071], 65537, 1, api.ErrArg)
	recordIs(t, 0, many[:131071], 65536, 0, make([]api.Hash, 16))
}
