package tlog_test

import (
	"math"
	"slices"
	"testing"

	"ledger/api"
	"ledger/tlog"
)

// trueStored: each node's hash as that of the tree over its own leaves, in the order of the places.
func trueStored(k int, leaves []api.Hash) []api.Hash {
	var list []api.Hash
	for _, at := range laidDown(int64(len(leaves))) {
		from, width := at.number<<at.level, int64(1)<<at.level
		list = append(list, trueRoot(k, leaves[from:from+width]))
	}
	return list
}

// built: the stored hashes of the tree with these leaves, which Build takes.
func built(t *testing.T, k int, leaves []api.Hash) []api.Hash {
	t.Helper()
	stored, e := tlog.Build(k, leaves)
	if e != api.OK {
		t.Fatalf("Build of %d leaves: %d", len(leaves), int(e))
	}
	return stored
}

func checks(t *testing.T, what string, k int, stored []api.Hash, want api.Errno) {
	t.Helper()
	if e := tlog.Check(k, stored); e != want {
		t.Errorf("Check, strength %d, %s: %d, want %d", k, what, int(e), int(want))
	}
	tree, e := tlog.Load(k, stored)
	if e != want || (tree == nil) != (want != api.OK) {
		t.Errorf("Load, strength %d, %s: a tree: %v, %d, want %d", k, what, tree != nil, int(e), int(want))
	}
}

func rootIs(t *testing.T, k int, stored []api.Hash, n int64, want api.Hash) {
	t.Helper()
	if h, e := tlog.Root(k, stored, n); h != want || e != api.OK {
		t.Errorf("Root, strength %d, of %d records of %d hashes: %x, %d, want %x", k, n, len(stored), h, int(e), want)
	}
}

func noRoot(t *testing.T, stored []api.Hash, n int64, want api.Errno) {
	t.Helper()
	if h, e := tlog.Root(0, stored, n); h != (api.Hash{}) || e != want {
		t.Errorf("Root of %d records of %d hashes: %x, %d, want %d", n, len(stored), h, int(e), int(want))
	}
}

func TestBuildByDefinition(t *testing.T) { // P8.7, P8.8: leaves that no strength has cut are taken as they are
	all := someHashes(70)
	for _, k := range strengths {
		for n := range all {
			stored := built(t, k, all[:n])
			if !slices.Equal(stored, trueStored(k, all[:n])) {
				t.Errorf("strength %d: the stored hashes of %d leaves are others", k, n)
			}
			checks(t, "what Build gives", k, stored, api.OK)
		}
	}
}

func TestRootsByDefinition(t *testing.T) { // P8.9
	all := someHashes(40)
	for _, k := range []int{0, 1, 31, 33} {
		for n := range all {
			stored := built(t, k, all[:n])
			for m := range n + 1 {
				rootIs(t, k, stored, int64(m), trueRoot(k, all[:m]))
			}
		}
	}
}

func TestRootsOfTheExamples(t *testing.T) { // P8.7, P8.9
	stored := built(t, 0, letters(0, 7))
	rootIs(t, 0, stored, 1, letters(0, 1)[0])
	rootIs(t, 0, stored, 2, hashOf(t, "b137985ff484fb600db93107c77b0365c80d78f5b429ded0fd97361d077999eb"))
	rootIs(t, 0, stored, 3, hashOf(t, "36642e73c2540ab121e3a6bf9545b0a24982cd830eb13d3cd19de3ce6c021ec1"))
	rootIs(t, 0, stored, 7, hashOf(t, "4ae191939f548d9934740b88dea2c5cb89bb8870fc4505cd79dec6bbfaaee9cb"))
	rootIs(t, 2, built(t, 2, letters(2, 3)), 3, hashOf(t, "9b63"))
	noRoot(t, stored, 8, api.ErrArg)
	noRoot(t, stored, -1, api.ErrArg)
}

func TestRootTakesInnerHashesAsTheyAre(t *testing.T) { // P8.9
	stored := someHashes(26) // of 15 records; none of them is its children's node hash
	checks(t, "hashes that have nothing to do with one another", 0, stored, api.ErrInner)
	for n := range int64(16) {
		var peaks []api.Hash
		for _, place := range truePeaks(n) {
			peaks = append(peaks, stored[place])
		}
		for _, k := range strengths {
			rootIs(t, k, stored, n, trueFold(k, peaks))
		}
	}
}

func TestRootRefusesSizes(t *testing.T) { // P8.9, P0.1
	for n := range 20 {
		stored := built(t, 0, someHashes(n))
		for _, m := range []int64{-1, -2, math.MinInt64, int64(n) + 1, int64(n) + 2, 1 << 48, 1<<48 + 1, math.MaxInt64} {
			noRoot(t, stored, m, api.ErrArg)
		}
	}
}

func TestCheckFindsEachTurnedHash(t *testing.T) { // P8.8, P8.10: an inner one, and a leaf that has a node above it
	for _, k := range []int{0, 4, 31} {
		for n := 1; n <= 21; n++ {
			right := built(t, k, someHashes(n))
			for place, at := range laidDown(int64(n)) {
				want := api.ErrInner
				if at.level == 0 && at.number == int64(n-1) && n%2 == 1 {
					want = api.OK // the last leaf stands alone, and nothing is asked of it
				}
				for _, i := range []int{0, 15, 31} {
					stored := slices.Clone(right)
					stored[place][i] ^= 1
					checks(t, "one hash turned", k, stored, want)
				}
			}
		}
	}
}

func TestCheckGoesByTheStrength(t *testing.T) { // P8.8: what is right of one strength is wrong of another
	leaves := someHashes(2)
	for k := 1; k <= 32; k++ {
		stored := built(t, k, leaves)
		for other := 1; other <= 32; other++ {
			want := api.ErrInner
			if trueNode(other, leaves[0], leaves[1]) == trueNode(k, leaves[0], leaves[1]) {
				want = api.OK
			}
			checks(t, "another strength's", other, stored, want)
		}
	}
	swapped := built(t, 0, leaves)
	swapped[0], swapped[1] = swapped[1], swapped[0]
	checks(t, "the two leaves for one another", 0, swapped, api.ErrInner)
}

func TestCheckAsksNothingOfALeafAlone(t *testing.T) { // P8.8
	for _, k := range strengths {
		checks(t, "one leaf of any bytes", k, someHashes(1), api.OK)
		checks(t, "one leaf of zeros", k, make([]api.Hash, 1), api.OK)
	}
}

func TestCountsThatNoTreeHas(t *testing.T) { // P8.8, P8.9, P8.10
	trees := map[int64]int{}
	for n := range int64(100) {
		trees[trueCount(n)]++
	}
	for count := range 190 {
		if trees[int64(count)] > 0 {
			continue
		}
		stored := make([]api.Hash, count) // ErrStored stands ahead of ErrInner and of ErrArg
		checks(t, "no tree has so many", 0, stored, api.ErrStored)
		for _, n := range []int64{-1, 0, 1, 1000} {
			noRoot(t, stored, n, api.ErrStored)
		}
	}
}

func TestListsThatAreTooLong(t *testing.T) { // P8.7, P8.8, P8.9, P8.10: of 131072 hashes are the trees of 65537 records, 131073 no tree has
	for _, n := range []int{65537, 65538, 70000} {
		if l, e := tlog.Build(0, make([]api.Hash, n)); len(l) != 0 || e != api.ErrLong {
			t.Errorf("Build of %d leaves: %d hashes, %d", n, len(l), int(e))
		}
	}
	for _, count := range []int{131072, 131073, 131074, 200000} {
		stored := make([]api.Hash, count)
		checks(t, "too many", 0, stored, api.ErrLong)
		noRoot(t, stored, 0, api.ErrLong)
		noRoot(t, stored, -1, api.ErrLong)
	}
	for _, count := range []int{131069, 131070} { // not too long, but no tree's
		stored := make([]api.Hash, count)
		checks(t, "between two counts", 0, stored, api.ErrStored)
		noRoot(t, stored, 0, api.ErrStored)
	}
}

func TestTheLongestLists(t *testing.T) { // P8.7, P8.8, P8.9, P8.10
	leaves := someHashes(65536)
	stored := built(t, 0, leaves)
	if len(stored) != 131071 {
		t.Fatalf("%d stored hashes of 65536 leaves", len(stored))
	}
	checks(t, "of 65536 leaves", 0, stored, api.OK)
	for _, n := range []int{0, 1, 40000, 65535, 65536} {
		rootIs(t, 0, stored, int64(n), trueRoot(0, leaves[:n]))
	}
	noRoot(t, stored, 65537, api.ErrArg)
	stored[131070][31] ^= 1
	checks(t, "the top turned", 0, stored, api.ErrInner)
}
