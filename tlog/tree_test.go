package tlog_test

import (
	"math"
	"math/rand"
	"slices"
	"testing"

	"ledger/api"
	"ledger/tlog"
)

// grown: a tree to which these leaves have joined.
func grown(t *testing.T, k int, leaves []api.Hash) *tlog.Tree {
	t.Helper()
	tree := tlog.New(k)
	for i, leaf := range leaves {
		joins(t, tree, leaf, int64(i))
	}
	return tree
}

// loaded: a tree of these leaves, by way of their stored hashes.
func loaded(t *testing.T, k int, leaves []api.Hash) *tlog.Tree {
	t.Helper()
	tree, e := tlog.Load(k, built(t, k, leaves))
	if e != api.OK || tree == nil {
		t.Fatalf("Load of %d leaves' hashes: %d", len(leaves), int(e))
	}
	return tree
}

func joins(t *testing.T, tree *tlog.Tree, leaf api.Hash, id int64) {
	t.Helper()
	if n, e := tree.Add(leaf); n != id || e != api.OK {
		t.Errorf("Add = %d, %d, want %d", n, int(e), id)
	}
}

// isTreeOf: all that can be asked of the tree is as of one with these leaves.
func isTreeOf(t *testing.T, tree *tlog.Tree, k int, leaves []api.Hash) {
	t.Helper()
	size := int64(len(leaves))
	if n := tree.Size(); n != size {
		t.Errorf("Size = %d, want %d", n, size)
	}
	if s := tree.Strength(); s != keptBytes(k) {
		t.Errorf("Strength = %d, want %d", s, keptBytes(k))
	}
	stored := trueStored(k, leaves)
	if !slices.Equal(tree.Stored(), stored) {
		t.Errorf("Stored, of %d records: others", size)
	}
	places := make([]int64, len(stored))
	for i := range places {
		places[i] = int64(i)
	}
	if l, e := tree.Hashes(places); !slices.Equal(l, stored) || e != api.OK {
		t.Errorf("Hashes of all places, of %d records: others, or %d", size, int(e))
	}
	for n := range size + 1 {
		if h, e := tree.Root(n); h != trueRoot(k, leaves[:n]) || e != api.OK {
			t.Errorf("Root(%d) of %d records: %x, %d", n, size, h, int(e))
		}
	}
	for _, n := range []int64{-1, math.MinInt64, size + 1, math.MaxInt64} {
		if h, e := tree.Root(n); h != (api.Hash{}) || e != api.ErrArg {
			t.Errorf("Root(%d) of %d records: %x, %d", n, size, h, int(e))
		}
	}
}

func TestTreesThatGrow(t *testing.T) { // P8.10, P8.11, P8.12, P8.13, P8.14
	all := someHashes(36)
	for _, k := range strengths {
		tree := tlog.New(k)
		for i, leaf := range all {
			isTreeOf(t, tree, k, all[:i])
			joins(t, tree, leaf, int64(i))
		}
	}
}

func TestTreesThatAreLoaded(t *testing.T) { // P8.10: and grow on from there
	all := someHashes(40)
	for _, k := range []int{0, 1, 20, 31, 32, 33} {
		for n := range 35 {
			tree := loaded(t, k, all[:n])
			isTreeOf(t, tree, k, all[:n])
			for i := n; i < n+3; i++ {
				joins(t, tree, all[i], int64(i))
			}
			isTreeOf(t, tree, k, all[:n+3])
		}
	}
}

func TestStrengthAsItCounts(t *testing.T) { // P8.12
	for _, k := range strengths {
		if s := tlog.New(k).Strength(); s != keptBytes(k) {
			t.Errorf("New(%d): Strength %d, want %d", k, s, keptBytes(k))
		}
		if s := loaded(t, k, someHashes(3)).Strength(); s != keptBytes(k) {
			t.Errorf("Load(%d): Strength %d, want %d", k, s, keptBytes(k))
		}
	}
}

func TestHashesInTheOrderOfTheList(t *testing.T) { // P8.14: a place may be asked twice
	stored := trueStored(0, someHashes(9))
	tree := grown(t, 0, someHashes(9))
	for _, places := range [][]int64{nil, {}, {0}, {15}, {14, 0, 0, 14}, {15, 14, 13, 12, 11}, {3, 3, 3}} {
		var want []api.Hash
		for _, place := range places {
			want = append(want, stored[place])
		}
		if l, e := tree.Hashes(places); !slices.Equal(l, want) || e != api.OK {
			t.Errorf("Hashes(%v) = %x, %d", places, l, int(e))
		}
	}
}

func TestHashesOfPlacesThatAreNotThere(t *testing.T) { // P8.14, P0.1
	for n := range 20 {
		tree := grown(t, 0, someHashes(n))
		count := trueCount(int64(n))
		for _, place := range []int64{-1, math.MinInt64, count, count + 1, 1 << 32, 1 << 49, math.MaxInt64} {
			for _, places := range [][]int64{{place}, {place, 0}, {count - 1, place}, {0, place, 0}} {
				if l, e := tree.Hashes(places); len(l) != 0 || e != api.ErrArg {
					t.Errorf("Hashes(%v) of %d records: %d hashes, %d", places, n, len(l), int(e))
				}
			}
		}
		isTreeOf(t, tree, 0, someHashes(n))
	}
}

func TestHashesOfTooManyPlaces(t *testing.T) { // P8.14: ErrLong stands ahead of ErrArg
	tree := grown(t, 0, someHashes(1))
	places := make([]int64, 65537)
	if l, e := tree.Hashes(places[:65536]); len(l) != 65536 || e != api.OK {
		t.Errorf("65536 places: %d hashes, %d", len(l), int(e))
	}
	if l, e := tree.Hashes(places); len(l) != 0 || e != api.ErrLong {
		t.Errorf("65537 places: %d hashes, %d", len(l), int(e))
	}
	places[0], places[65536] = -1, 1
	if l, e := tree.Hashes(places); len(l) != 0 || e != api.ErrLong {
		t.Errorf("65537 places, some of them not there: %d hashes, %d", len(l), int(e))
	}
	if l, e := tree.Hashes(places[:65536]); len(l) != 0 || e != api.ErrArg {
		t.Errorf("65536 places, one of them not there: %d hashes, %d", len(l), int(e))
	}
}

func TestBackToEachSize(t *testing.T) { // P8.15: other records join in the place of those that are gone
	all := someHashes(60)
	for _, k := range []int{0, 3} {
		for n := range 20 {
			for m := range n + 1 {
				tree := grown(t, k, all[:n])
				if e := tree.Back(int64(m)); e != api.OK {
					t.Errorf("Back(%d) of %d: %d", m, n, int(e))
				}
				isTreeOf(t, tree, k, all[:m])
				want := slices.Concat(all[:m], all[30:35])
				for i := m; i < len(want); i++ {
					joins(t, tree, want[i], int64(i))
				}
				isTreeOf(t, tree, k, want)
			}
		}
	}
}

func TestBackRefusesSizes(t *testing.T) { // P8.15, P0.1: nothing is done
	for n := range 12 {
		tree := grown(t, 0, someHashes(n))
		for _, m := range []int64{-1, -2, math.MinInt64, int64(n) + 1, 1 << 48, math.MaxInt64} {
			if e := tree.Back(m); e != api.ErrArg {
				t.Errorf("Back(%d) of %d: %d", m, n, int(e))
			}
		}
		isTreeOf(t, tree, 0, someHashes(n))
	}
}

func TestBackForgetsWhatIsGone(t *testing.T) { // P8.15: a size that the tree once had is no size of it any more
	tree := grown(t, 0, someHashes(9))
	tree.Back(4)
	if e := tree.Back(5); e != api.ErrArg {
		t.Errorf("Back to a size that is gone: %d", int(e))
	}
	if l, e := tree.Hashes([]int64{7}); len(l) != 0 || e != api.ErrArg {
		t.Errorf("Hashes of a place that is gone: %x, %d", l, int(e))
	}
	isTreeOf(t, tree, 0, someHashes(4))
}

func TestTreeOfTheExamples(t *testing.T) { // P8.11, P8.14, P8.15
	abc := letters(0, 3)
	tree := grown(t, 0, abc)
	if e := tree.Back(1); e != api.OK {
		t.Errorf("Back(1): %d", int(e))
	}
	joins(t, tree, abc[2], 1)
	isTreeOf(t, tree, 0, []api.Hash{abc[0], abc[2]})
	want := []api.Hash{trueNode(0, abc[0], abc[2]), abc[0], abc[0]}
	if l, e := tree.Hashes([]int64{2, 0, 0}); !slices.Equal(l, want) || e != api.OK {
		t.Errorf("Hashes of 2, 0, 0: %x, %d", l, int(e))
	}
	if l, e := tree.Hashes([]int64{3}); len(l) != 0 || e != api.ErrArg {
		t.Errorf("Hashes of 3: %x, %d", l, int(e))
	}
}

func TestTheGreatestTree(t *testing.T) { // P8.11: with 65536 records nothing joins, till it goes back
	leaves := someHashes(65536)
	tree := grown(t, 0, leaves)
	root := trueRoot(0, leaves)
	for range 2 {
		if n, e := tree.Add(leaves[0]); n != 0 || e != api.ErrLong {
			t.Errorf("Add to 65536 records: %d, %d", n, int(e))
		}
		if h, e := tree.Root(65536); tree.Size() != 65536 || h != root || e != api.OK {
			t.Errorf("behind a refused Add: %d records, root %x, %d", tree.Size(), h, int(e))
		}
	}
	if stored := tree.Stored(); !slices.Equal(stored, built(t, 0, leaves)) {
		t.Errorf("Stored: %d hashes, others than Build's", len(stored))
	}
	if e := tree.Back(65535); e != api.OK {
		t.Errorf("Back(65535): %d", int(e))
	}
	joins(t, tree, leaves[65535], 65535)
	if h, e := tree.Root(65536); h != root || e != api.OK {
		t.Errorf("the root behind Back and Add: %x, %d", h, int(e))
	}
}

func TestTreesByChance(t *testing.T) { // P8.10 to P8.16: calls in any order, two trees side by side
	all := someHashes(1000)
	for seed := range int64(20) {
		chance := rand.New(rand.NewSource(seed))
		k := strengths[chance.Intn(len(strengths))]
		trees := [2]*tlog.Tree{tlog.New(k), tlog.New(k)}
		var leaves [2][]api.Hash
		for range 120 {
			i := chance.Intn(2)
			size := len(leaves[i])
			switch chance.Intn(6) {
			case 0:
				to := chance.Intn(size + 1)
				if e := trees[i].Back(int64(to)); e != api.OK {
					t.Fatalf("Back(%d) of %d: %d", to, size, int(e))
				}
				leaves[i] = leaves[i][:to:to]
			case 1:
				stored := trees[i].Stored()
				var e api.Errno
				if trees[1-i], e = tlog.Load(k, stored); e != api.OK {
					t.Fatalf("Load of what Stored gave: %d", int(e))
				}
				leaves[1-i] = slices.Clone(leaves[i])
			default:
				leaf := all[chance.Intn(len(all))]
				joins(t, trees[i], leaf, int64(size))
				leaves[i] = append(leaves[i], leaf)
			}
		}
		for i := range trees {
			isTreeOf(t, trees[i], k, leaves[i])
		}
	}
}
