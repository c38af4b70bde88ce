package proof_test

import (
	"bytes"
	"fmt"
	"slices"
	"sync"
	"testing"

	"ledger/api"
	"ledger/proof"
)

// roomy: the items with room behind them, which an append would fill, and all of it.
func roomy[T any](items []T, rest ...T) (given, all []T) {
	all = slices.Concat(items, rest)
	return all[:len(items)], all
}

// spoil: overwrites a list and the room behind it.
func spoil[T any](list []T, with T) {
	list = list[:cap(list)]
	for i := range list {
		list[i] = with
	}
}

func TestListsOfHashesStayAsTheyAre(t *testing.T) { // P9.10, P0.2
	leaves, rest := someHashes(7), someHashes(20)
	stored := built(t, 0, leaves)
	record, tree := trueRecord(0, leaves, 7, 4), trueTree(0, leaves, 7, 3)
	l := trueLifting(0, leaves, 3, 0, 7)
	for what, c := range map[string]struct {
		list []api.Hash
		call func(list []api.Hash)
	}{
		"Record":                      {stored, func(list []api.Hash) { proof.Record(0, list, 7, 4) }},
		"Tree":                        {stored, func(list []api.Hash) { proof.Tree(0, list, 7, 3) }},
		"ClimbRecord":                 {record, func(list []api.Hash) { proof.ClimbRecord(0, list, 7, 4, leaves[4]) }},
		"ClimbTree":                   {tree, func(list []api.Hash) { proof.ClimbTree(0, list, 7, 3, l.old) }},
		"CheckRecord":                 {record, func(list []api.Hash) { proof.CheckRecord(0, list, 7, l.root, 4, leaves[4]) }},
		"CheckTree":                   {tree, func(list []api.Hash) { proof.CheckTree(0, list, 7, l.root, 3, l.old) }},
		"CollideRecords, the first":   {record, func(list []api.Hash) { proof.CollideRecords(0, 7, 4, nil, list, nil, record) }},
		"CollideRecords, the second":  {record, func(list []api.Hash) { proof.CollideRecords(0, 7, 4, nil, record, nil, list) }},
		"CollideTrees, the first":     {tree, func(list []api.Hash) { proof.CollideTrees(0, 7, l.root, 3, l.old, list, l.old, tree) }},
		"CollideTrees, the second":    {tree, func(list []api.Hash) { proof.CollideTrees(0, 7, l.root, 3, l.old, tree, l.old, list) }},
		"Lift, the record proof":      {l.record, func(list []api.Hash) { l := l; l.record = list; l.ask() }},
		"Lift, the tree proof":        {l.tree, func(list []api.Hash) { l := l; l.tree = list; l.ask() }},
		"Lift of one size":            {record, func(list []api.Hash) { proof.Lift(0, 7, l.root, 4, leaves[4], list, 7, l.root, nil) }},
		"Lift with another old root":  {l.record, func(list []api.Hash) { l := l; l.record, l.old = list, api.Hash{}; l.ask() }},
		"ClimbRecord of other length": {stored, func(list []api.Hash) { proof.ClimbRecord(0, list, 7, 4, leaves[4]) }},
	} {
		given, all := roomy(c.list, rest...)
		c.call(given)
		if !slices.Equal(all, slices.Concat(c.list, rest)) {
			t.Errorf("%s changes the list that it is handed, or the room behind it", what)
		}
	}
}

func TestBytesStayAsTheyAre(t *testing.T) { // P9.10, P0.2
	for what, call := range map[string]func(data []byte){
		"LeafBytes":                  func(data []byte) { proof.LeafBytes(data) },
		"Collides, A":                func(data []byte) { proof.Collides(1, proof.Pair{A: data, B: []byte("r7")}) },
		"Collides, B":                func(data []byte) { proof.Collides(1, proof.Pair{A: []byte("r7"), B: data}) },
		"CollideRecords, the first":  func(data []byte) { proof.CollideRecords(1, 1, 0, data, nil, []byte("r7"), nil) },
		"CollideRecords, the second": func(data []byte) { proof.CollideRecords(1, 1, 0, []byte("r7"), nil, data, nil) },
	} {
		data, all := roomy([]byte("r3"), []byte("behind it")...)
		call(data)
		if string(all) != "r3behind it" {
			t.Errorf("%s changes its bytes, or the room behind them: %q", what, all)
		}
	}
}

// ownPlaces: each list of an answer is spoilt in its turn, and all others must stay, those of another answer too.
func ownPlaces(t *testing.T, what string, call placesCall, n, x int64, want [][]int64) {
	t.Helper()
	other, _ := call(n, x)
	for j := range want {
		lists, _ := call(n, x)
		spoil(lists[j], -7)
		lists[j] = want[j]
		if !slices.EqualFunc(lists, want, slices.Equal) {
			t.Fatalf("%s(%d, %d): list %d shares memory with another", what, n, x, j)
		}
		spoil(lists, nil)
	}
	if !slices.EqualFunc(other, want, slices.Equal) {
		t.Fatalf("%s(%d, %d): two answers share memory", what, n, x)
	}
}

func TestPlacesAreNewMemory(t *testing.T) { // P9.10, P0.2: no two lists of one answer share any, their spare room too
	for n := int64(2); n <= 40; n++ {
		for i := range n {
			ownPlaces(t, "RecordPlaces", proof.RecordPlaces, n, i, peaksAll(recordWay(i, area{0, n})))
			ownPlaces(t, "TreePlaces", proof.TreePlaces, n, i+1, peaksAll(treeWay(i+1, area{0, n})))
		}
	}
}

func TestProofsAreNewMemory(t *testing.T) { // P9.10, P0.2: whatever is written into an answer or a list that was handed in
	leaves := someHashes(9)
	for n := int64(1); n <= 9; n++ {
		for m := int64(1); m <= n; m++ {
			for i := range m {
				l := trueLifting(0, leaves, m, i, n)
				want := slices.Concat(l.record, l.tree)
				got, _, _ := l.ask()
				again, _, _ := l.ask()
				spoil(got, api.Hash{9})
				if !slices.Equal(slices.Concat(l.record, l.tree), want) || !slices.Equal(again, trueRecord(0, leaves, n, i)) {
					t.Fatalf("Lift of %d from %d to %d: the answer shares memory", i, m, n)
				}
				spoil(l.record, api.Hash{8})
				spoil(l.tree, api.Hash{8})
				if !slices.Equal(again, trueRecord(0, leaves, n, i)) {
					t.Fatalf("Lift of %d from %d to %d: the answer hangs on what was handed in", i, m, n)
				}
			}
		}
	}
	stored := built(t, 0, leaves)
	record, _ := proof.Record(0, stored, 9, 2)
	tree, _ := proof.Tree(0, stored, 9, 5)
	spoil(stored, api.Hash{8})
	if !slices.Equal(record, trueRecord(0, leaves, 9, 2)) || !slices.Equal(tree, trueTree(0, leaves, 9, 5)) {
		t.Error("a proof hangs on the stored hashes that were handed in")
	}
	stored = built(t, 0, leaves)
	want := slices.Clone(stored)
	for i := range int64(9) {
		record, _ = proof.Record(0, stored, 9, i)
		tree, _ = proof.Tree(0, stored, 9, i+1)
		spoil(record, api.Hash{8})
		spoil(tree, api.Hash{8})
	}
	if !slices.Equal(stored, want) {
		t.Error("a proof shares memory with the stored hashes")
	}
}

func TestPairsAreNewMemory(t *testing.T) { // P9.10, P0.2
	a, b := []byte("r3"), []byte("r7")
	p, _ := proof.CollideRecords(1, 1, 0, a, nil, b, nil)
	q, _ := proof.CollideRecords(1, 1, 0, a, nil, b, nil)
	spoil(p.A, 9)
	if string(p.B) != "\x00r7" || string(q.A) != "\x00r3" || string(a) != "r3" {
		t.Error("the first of a pair shares memory")
	}
	spoil(p.B, 9)
	spoil(a, 9)
	spoil(b, 9)
	if string(q.A) != "\x00r3" || string(q.B) != "\x00r7" {
		t.Error("a pair shares memory with another, or with the records")
	}
	leaf := []byte("leaf")
	first, second := proof.LeafBytes(leaf), proof.LeafBytes(leaf)
	spoil(first, 9)
	if string(second) != "\x00leaf" || string(leaf) != "leaf" {
		t.Error("LeafBytes answers memory that is shared")
	}
	l := someHashes(2)
	x, y := proof.NodeBytes(l[0], l[1]), proof.NodeBytes(l[0], l[1])
	spoil(x, 9)
	if !bytes.Equal(y, nodeBytes(l[0], l[1])) {
		t.Error("NodeBytes answers memory that is shared")
	}
}

func TestNilAndEmptyAreOne(t *testing.T) { // P0.1
	h := api.Hash{7}
	for _, none := range [][]api.Hash{nil, {}} {
		climbsRecord(t, 0, none, 1, 0, h, h)
		climbsTree(t, 0, none, 5, 5, h, h, h)
		if e := proof.CheckRecord(0, none, 1, h, 0, h); e != api.OK {
			t.Errorf("CheckRecord without hashes: %d", int(e))
		}
		if e := proof.CheckTree(0, none, 5, h, 5, h); e != api.OK {
			t.Errorf("CheckTree without hashes: %d", int(e))
		}
		lifts(t, lifting{0, 1, h, 0, h, none, 1, h, none}, nil)
		noProof(t, "Record", proof.Record, none, 1, 0, api.ErrArg)
		noProof(t, "Tree", proof.Tree, none, 1, 1, api.ErrArg)
		noCollision(t, 0, 1, 0, nil, none, []byte{}, none, api.ErrNoPair)
		noTreeCollision(t, 5, h, 5, h, none, h, nil, api.ErrNoPair)
	}
	if a, b := proof.LeafBytes(nil), proof.LeafBytes([]byte{}); string(a) != "\x00" || string(b) != "\x00" {
		t.Errorf("LeafBytes of nothing: %x, %x", a, b)
	}
	for _, p := range []proof.Pair{{A: []byte{}}, {B: []byte{}}, {A: []byte{}, B: []byte{}}, {}} {
		if proof.Collides(1, p) {
			t.Error("nothing collides with nothing")
		}
	}
}

// answers: of one round of calls, in words.
func answers() string {
	leaves := someHashes(9)
	l := trueLifting(0, leaves, 5, 3, 9)
	lifted, pair, e := l.ask()
	fresh, old, _ := proof.ClimbTree(3, leaves[:4], 7, 3, leaves[8])
	records, _ := proof.RecordPlaces(1<<48-1, 77)
	trees, _ := proof.TreePlaces(1<<48-1, 77)
	met, _ := proof.CollideRecords(1, 1, 0, []byte("r3"), nil, []byte("r7"), nil)
	return fmt.Sprint(lifted, pair, e, fresh, old, records, trees, met)
}

func TestSameCallsSameAnswers(t *testing.T) { // P9.10, P0.2: again, and side by side
	want := answers()
	got := make([]string, 8)
	var all sync.WaitGroup
	for i := range got {
		all.Go(func() { got[i] = answers() })
	}
	all.Wait()
	for i := range got {
		if got[i] != want {
			t.Errorf("round %d answers otherwise", i)
		}
	}
}
