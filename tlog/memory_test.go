package tlog_test

import (
	"slices"
	"sync"
	"testing"

	"ledger/api"
	"ledger/tlog"
)

// roomy: the items with room behind them, which an append would fill, and all of it.
func roomy[T any](items []T, rest ...T) (given, all []T) {
	all = slices.Concat(items, rest)
	return all[:len(items)], all
}

// spoil: overwrites a list and the room behind it.
func spoil[T any](list []T, with T) {
	list = list[:cap(list)]
	for i := range list {
		list[i] = with
	}
}

var other = api.Hash{9, 9, 9}

func TestListsOfHashesStayAsTheyAre(t *testing.T) { // P8.16, P0.2
	stored := trueStored(0, someHashes(7))
	rest := someHashes(20)
	for what, call := range map[string]func(list []api.Hash){
		"Fold":  func(list []api.Hash) { tlog.Fold(3, list) },
		"Build": func(list []api.Hash) { tlog.Build(3, list) },
		"Check": func(list []api.Hash) { tlog.Check(0, list) },
		"Root":  func(list []api.Hash) { tlog.Root(3, list, 3) },
		"Load": func(list []api.Hash) {
			tree, _ := tlog.Load(0, list)
			tree.Add(other)
			tree.Back(1)
			tree.Add(other)
			tree.Add(other)
		},
	} {
		given, all := roomy(stored, rest...)
		call(given)
		if !slices.Equal(all, slices.Concat(stored, rest)) {
			t.Errorf("%s changes the list that it is handed, or the room behind it", what)
		}
	}
}

func TestBytesAndPlacesStayAsTheyAre(t *testing.T) { // P8.16, P0.2
	data, whole := roomy([]byte("record"), []byte("behind it")...)
	tlog.LeafHash(3, data)
	if string(whole) != "recordbehind it" {
		t.Errorf("LeafHash changes its bytes, or the room behind them: %q", whole)
	}
	tree := grown(t, 0, someHashes(4))
	places, all := roomy([]int64{6, 0, 2}, 5, 4, 3)
	tree.Hashes(places)
	if !slices.Equal(all, []int64{6, 0, 2, 5, 4, 3}) {
		t.Errorf("Hashes changes its list, or the room behind it: %v", all)
	}
}

func TestLoadKeepsNothingOfTheList(t *testing.T) { // P8.16, P0.2
	for n := range 10 {
		stored, all := roomy(trueStored(0, someHashes(n)), someHashes(20)...)
		tree, _ := tlog.Load(0, stored)
		spoil(all, other)
		isTreeOf(t, tree, 0, someHashes(n))
		joins(t, tree, someHashes(n + 1)[n], int64(n))
		spoil(all, other)
		isTreeOf(t, tree, 0, someHashes(n+1))
	}
}

func TestBuildKeepsNothingOfTheList(t *testing.T) { // P8.16, P0.2
	for n := range 10 {
		leaves, all := roomy(someHashes(n), someHashes(20)...)
		first := built(t, 0, leaves)
		second := built(t, 0, leaves)
		spoil(all, other)
		spoil(first, other)
		if !slices.Equal(second, trueStored(0, someHashes(n))) {
			t.Errorf("of %d leaves: two answers, or an answer and the list, share memory", n)
		}
	}
}

func TestPeaksAreNewMemory(t *testing.T) { // P8.16, P0.2
	for n := range int64(40) {
		first, _ := tlog.Peaks(n)
		second, _ := tlog.Peaks(n)
		spoil(first, -7)
		if !slices.Equal(second, truePeaks(n)) {
			t.Errorf("two answers of Peaks(%d) share memory", n)
		}
	}
}

func TestListsHandedOutAreNewMemory(t *testing.T) { // P8.16, P0.2: their spare room too, at every step of the growing
	all := someHashes(40)
	tree := tlog.New(0)
	for i, leaf := range all {
		joins(t, tree, leaf, int64(i))
		stored, again := tree.Stored(), tree.Stored()
		first, _ := tree.Hashes([]int64{0, int64(len(stored) - 1)})
		second, _ := tree.Hashes([]int64{0, int64(len(stored) - 1)})
		spoil(stored, other)
		spoil(first, other)
		for place := range int64(len(stored)) { // a piece of what is kept is no new memory
			one, _ := tree.Hashes([]int64{place})
			spoil(one, other)
		}
		_ = append(again, other, other, other)
		_ = append(second, other, other, other)
		if want := trueStored(0, all[:i+1]); !slices.Equal(again, want) || second[0] != want[0] || second[1] != want[len(want)-1] {
			t.Fatalf("of %d records: two lists that were handed out share memory", i+1)
		}
		if !slices.Equal(tree.Stored(), trueStored(0, all[:i+1])) {
			t.Fatalf("of %d records: the tree shares memory with a list that was handed out", i+1)
		}
	}
	isTreeOf(t, tree, 0, all)
}

func TestListsHandedOutStay(t *testing.T) { // P8.16: when the tree grows, goes back, and grows otherwise
	all := someHashes(33)
	for n := range all {
		tree := grown(t, 0, all[:n])
		want := trueStored(0, all[:n])
		places := make([]int64, len(want))
		for i := range places {
			places[i] = int64(i)
		}
		stored := tree.Stored()
		hashes, _ := tree.Hashes(places)
		for range 3 {
			tree.Add(other)
		}
		tree.Back(int64(n / 2))
		for range n {
			tree.Add(other)
		}
		if !slices.Equal(stored, want) || !slices.Equal(hashes, want) {
			t.Errorf("of %d records: a list that was handed out has changed", n)
		}
	}
}

func TestTreesDoNotDisturbOneAnother(t *testing.T) { // P8.16
	all := someHashes(20)
	a := grown(t, 0, all[:6])
	b, _ := tlog.Load(0, a.Stored())
	c, _ := tlog.Load(5, trueStored(5, all[:6]))
	a.Back(3)
	for i := range 4 {
		joins(t, a, all[10+i], int64(3+i))
		joins(t, b, all[6+i], int64(6+i))
	}
	c.Back(0)
	isTreeOf(t, a, 0, slices.Concat(all[:3], all[10:14]))
	isTreeOf(t, b, 0, all[:10])
	isTreeOf(t, c, 5, nil)
}

func TestNilAndEmptyAreOne(t *testing.T) { // P0.1, P8.6, P8.7, P8.8, P8.9, P8.10, P8.14
	if tlog.LeafHash(0, nil) != tlog.LeafHash(0, []byte{}) {
		t.Error("LeafHash tells nil from no bytes")
	}
	for _, none := range [][]api.Hash{nil, {}} {
		for _, k := range strengths {
			if h := tlog.Fold(k, none); h != trueHash(k) {
				t.Errorf("strength %d: Fold of none: %x", k, h)
			}
			if l, e := tlog.Build(k, none); len(l) != 0 || e != api.OK {
				t.Errorf("strength %d: Build of none: %d hashes, %d", k, len(l), int(e))
			}
			checks(t, "none", k, none, api.OK)
			rootIs(t, k, none, 0, trueHash(k))
			tree, _ := tlog.Load(k, none)
			isTreeOf(t, tree, k, nil)
		}
		noRoot(t, none, 1, api.ErrArg)
	}
	if l, e := tlog.New(0).Hashes(nil); len(l) != 0 || e != api.OK {
		t.Errorf("Hashes of nil: %d hashes, %d", len(l), int(e))
	}
}

// answers: of one round of calls, one behind the other.
func answers() []api.Hash {
	leaves := someHashes(21)
	list := []api.Hash{tlog.LeafHash(3, []byte("record")), tlog.NodeHash(0, leaves[0], leaves[1]), tlog.EmptyHash(7), tlog.Fold(2, leaves)}
	stored, _ := tlog.Build(0, leaves)
	tree, _ := tlog.Load(0, stored)
	for _, leaf := range leaves {
		tree.Add(leaf)
	}
	tree.Back(30)
	for _, n := range []int64{0, 13, 30} {
		root, _ := tree.Root(n)
		list = append(list, root)
	}
	root, _ := tlog.Root(0, stored, 20)
	return slices.Concat(list, []api.Hash{root}, stored, tree.Stored())
}

func TestSameCallsSameAnswers(t *testing.T) { // P0.2: again, and side by side
	want := answers()
	got := make([][]api.Hash, 8)
	var all sync.WaitGroup
	for i := range got {
		all.Go(func() { got[i] = answers() })
	}
	all.Wait()
	for i := range got {
		if !slices.Equal(got[i], want) {
			t.Errorf("round %d answers otherwise", i)
		}
	}
}
