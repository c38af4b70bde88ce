package proof_test

import (
	"fmt"
	"math"
	"math/rand"
	"slices"
	"testing"

	"ledger/api"
	"ledger/proof"
)

type placesCall = func(n, x int64) ([][]int64, api.Errno)

func placesAre(t *testing.T, what string, call placesCall, n, x int64, want [][]int64) {
	t.Helper()
	got, e := call(n, x)
	if e != api.OK || !slices.EqualFunc(got, want, slices.Equal) {
		t.Errorf("%s(%d, %d) = %v, %d, want %v", what, n, x, got, int(e), want)
	}
}

func TestPlacesOfTheExamples(t *testing.T) { // P9.1
	for _, c := range []struct {
		n, i int64
		want string
	}{{1, 0, "[]"}, {2, 0, "[[1]]"}, {7, 0, "[[1] [5] [9 10]]"}, {7, 4, "[[8] [10] [6]]"}, {7, 6, "[[9] [6]]"}} {
		if l, e := proof.RecordPlaces(c.n, c.i); fmt.Sprint(l) != c.want || e != api.OK {
			t.Errorf("RecordPlaces(%d, %d) = %v, %d, want %s", c.n, c.i, l, int(e), c.want)
		}
	}
	for _, c := range []struct {
		n, m int64
		want string
	}{{7, 7, "[]"}, {7, 4, "[[9 10]]"}, {7, 3, "[[3] [4] [2] [9 10]]"}, {7, 6, "[[9] [10] [6]]"}, {7, 1, "[[1] [5] [9 10]]"}, {8, 2, "[[5] [13]]"}} {
		if l, e := proof.TreePlaces(c.n, c.m); fmt.Sprint(l) != c.want || e != api.OK {
			t.Errorf("TreePlaces(%d, %d) = %v, %d, want %s", c.n, c.m, l, int(e), c.want)
		}
	}
}

func TestPlacesOfAllSmallTrees(t *testing.T) { // P9.1
	for n := int64(1); n <= 140; n++ {
		for i := range n {
			placesAre(t, "RecordPlaces", proof.RecordPlaces, n, i, peaksAll(recordWay(i, area{0, n})))
			placesAre(t, "TreePlaces", proof.TreePlaces, n, i+1, peaksAll(treeWay(i+1, area{0, n})))
		}
	}
}

func TestPlacesOfGreatTrees(t *testing.T) { // P9.1, P9.10: as great as 2^48, at once
	chance := rand.New(rand.NewSource(91))
	for _, n := range sizes(chance) {
		for _, i := range ids(chance, n) {
			placesAre(t, "RecordPlaces", proof.RecordPlaces, n, i, peaksAll(recordWay(i, area{0, n})))
			placesAre(t, "TreePlaces", proof.TreePlaces, n, i+1, peaksAll(treeWay(i+1, area{0, n})))
		}
	}
}

func TestLongestWays(t *testing.T) { // P9.1: 48 ranges for a record, 49 for a tree
	const most = 1 << 48
	if l, e := proof.RecordPlaces(most, most-1); len(l) != 48 || e != api.OK {
		t.Errorf("RecordPlaces(2^48, 2^48 - 1): %d lists, %d", len(l), int(e))
	}
	if l, e := proof.TreePlaces(most, most-1); len(l) != 49 || e != api.OK {
		t.Errorf("TreePlaces(2^48, 2^48 - 1): %d lists, %d", len(l), int(e))
	}
	if l, e := proof.TreePlaces(most, most); len(l) != 0 || e != api.OK {
		t.Errorf("TreePlaces(2^48, 2^48): %d lists, %d", len(l), int(e))
	}
	if l, e := proof.RecordPlaces(most-1, 0); len(l) != 48 || len(l[47]) != 47 || e != api.OK {
		t.Errorf("RecordPlaces(2^48 - 1, 0): %d lists, %d", len(l), int(e))
	}
}

// noRecords: sizes and ids of which one may not be.
func noRecords() [][2]int64 {
	return [][2]int64{{0, 0}, {-1, 0}, {-1, -1}, {math.MinInt64, 0}, {math.MinInt64, math.MinInt64}, {5, -1}, {5, math.MinInt64}, {5, 5}, {5, 6}, {7, 7}, {1, 1}, {5, math.MaxInt64}, {1<<48 + 1, 0}, {1<<48 + 1, 1 << 48}, {1 << 48, 1 << 48}, {math.MaxInt64, 0}, {math.MaxInt64, 5}, {math.MaxInt64, math.MaxInt64}}
}

// noTrees: sizes and older sizes of which one may not be.
func noTrees() [][2]int64 {
	return [][2]int64{{0, 0}, {0, 1}, {-1, 1}, {-1, -1}, {math.MinInt64, 1}, {math.MinInt64, math.MinInt64}, {5, 0}, {5, -1}, {5, math.MinInt64}, {5, 6}, {7, 8}, {7, 0}, {1, 2}, {5, math.MaxInt64}, {1<<48 + 1, 1}, {1<<48 + 1, 1<<48 + 1}, {1 << 48, 1<<48 + 1}, {math.MaxInt64, 1}, {math.MaxInt64, math.MaxInt64}}
}

func TestPlacesRefuseNumbers(t *testing.T) { // P9.1, P0.1
	for _, c := range noRecords() {
		if l, e := proof.RecordPlaces(c[0], c[1]); len(l) != 0 || e != api.ErrArg {
			t.Errorf("RecordPlaces(%d, %d) = %v, %d", c[0], c[1], l, int(e))
		}
	}
	for _, c := range noTrees() {
		if l, e := proof.TreePlaces(c[0], c[1]); len(l) != 0 || e != api.ErrArg {
			t.Errorf("TreePlaces(%d, %d) = %v, %d", c[0], c[1], l, int(e))
		}
	}
}
