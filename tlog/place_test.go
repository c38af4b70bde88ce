package tlog_test

import (
	"math"
	"slices"
	"testing"

	"ledger/api"
	"ledger/tlog"
)

// node: a level and a number.
type node struct {
	level  int
	number int64
}

// laidDown: the nodes of a tree of n records in the order of their places, in the document's words.
func laidDown(n int64) []node {
	var list []node
	for i := range n {
		list = append(list, node{0, i})
		for level := 1; (i+1)%(1<<level) == 0; level++ {
			list = append(list, node{level, (i+1)/(1<<level) - 1})
		}
	}
	return list
}

// trueCount: n and its whole halves, quarters, and so on.
func trueCount(n int64) int64 {
	sum := int64(0)
	for ; n > 0; n /= 2 {
		sum += n
	}
	return sum
}

// manySizes: small ones, and those around each power of two and the sums of several.
func manySizes() []int64 {
	var list []int64
	for n := range int64(200) {
		list = append(list, n)
	}
	for level := 7; level <= 48; level++ {
		for d := int64(-3); d <= 3; d++ {
			list = append(list, 1<<level+d, 1<<level+1<<(level/2)+d, 1<<level-1<<(level/2)+d)
		}
	}
	return slices.DeleteFunc(list, func(n int64) bool { return n > 1<<48 })
}

func index(t *testing.T, level int, n, place int64, want api.Errno) {
	t.Helper()
	if p, e := tlog.Index(level, n); p != place || e != want {
		t.Errorf("Index(%d, %d) = %d, %d, want %d, %d", level, n, p, int(e), place, int(want))
	}
}

func split(t *testing.T, place int64, level int, n int64, want api.Errno) {
	t.Helper()
	if l, m, e := tlog.SplitIndex(place); l != level || m != n || e != want {
		t.Errorf("SplitIndex(%d) = %d, %d, %d, want %d, %d, %d", place, l, m, int(e), level, n, int(want))
	}
}

func records(t *testing.T, count, n int64, want api.Errno) {
	t.Helper()
	if m, e := tlog.Records(count); m != n || e != want {
		t.Errorf("Records(%d) = %d, %d, want %d, %d", count, m, int(e), n, int(want))
	}
}

func TestPlacesInTheirOrder(t *testing.T) { // P8.2, P8.3
	for place, at := range laidDown(5000) {
		index(t, at.level, at.number, int64(place), api.OK)
		split(t, int64(place), at.level, at.number, api.OK)
	}
}

func TestPlacesOfTheExamples(t *testing.T) { // P8.2, P8.3
	index(t, 48, 0, 1<<49-2, api.OK)
	index(t, 0, 1<<48-1, 1<<49-50, api.OK)
	split(t, 9, 1, 2, api.OK)
	split(t, 14, 3, 0, api.OK)
	split(t, 1<<49-2, 48, 0, api.OK)
}

func TestPlacesOfEachLevel(t *testing.T) { // P8.2, P8.3: its first nodes, its last ones, and some between
	for level := range 49 {
		end := int64(1) << (48 - level)
		for _, n := range []int64{0, 1, 2, 3, end / 3, end / 2, end - 2, end - 1} {
			if n < 0 || n >= end {
				continue
			}
			last := (n+1)<<level - 1 // the node is laid down with this record, so many behind its leaf
			want := trueCount(last) + int64(level)
			index(t, level, n, want, api.OK)
			split(t, want, level, n, api.OK)
		}
	}
}

func TestPlacesBehindALastRecord(t *testing.T) { // P8.3: all that joins with one record, up to the next one's leaf
	for _, n := range manySizes() {
		if n == 0 {
			continue
		}
		for place := trueCount(n - 1); place < trueCount(n); place++ {
			level := int(place - trueCount(n-1))
			split(t, place, level, n/(1<<level)-1, api.OK)
		}
		if n < 1<<48 {
			split(t, trueCount(n), 0, n, api.OK)
		}
	}
}

func TestNodesThatMayNotBe(t *testing.T) { // P8.2, P0.1: no product wraps
	for level := range 49 {
		end := int64(1) << (48 - level)
		for _, n := range []int64{end, end + 1, 2*end - 1, 2 * end, 1<<62 - 1, 1 << 62, math.MaxInt64 - 1, math.MaxInt64, -1, -2, math.MinInt64} {
			index(t, level, n, 0, api.ErrArg)
		}
		for bit := 48 - level; bit < 63; bit++ { // sums that a shift would push out of the word
			index(t, level, 1<<bit, 0, api.ErrArg)
			index(t, level, 1<<bit+1<<(bit/2), 0, api.ErrArg)
		}
	}
	for _, level := range []int{-1, -2, -64, 49, 50, 63, 64, 65, 1 << 40, math.MaxInt, math.MinInt} {
		for _, n := range []int64{0, 1, -1, math.MaxInt64, math.MinInt64} {
			index(t, level, n, 0, api.ErrArg)
		}
	}
}

func TestPlacesThatAreNone(t *testing.T) { // P8.3, P0.1
	for _, place := range []int64{-1, -2, 1<<49 - 1, 1 << 49, 1<<49 + 1, 1 << 50, 1 << 62, math.MaxInt64, math.MinInt64} {
		split(t, place, 0, 0, api.ErrArg)
	}
}

func TestCountByDefinition(t *testing.T) { // P8.4
	for _, n := range manySizes() {
		if c, e := tlog.Count(n); c != trueCount(n) || e != api.OK {
			t.Errorf("Count(%d) = %d, %d, want %d", n, c, int(e), trueCount(n))
		}
		records(t, trueCount(n), n, api.OK)
	}
	for n := range int64(3000) {
		if c, e := tlog.Count(n); c != int64(len(laidDown(n))) || e != api.OK {
			t.Fatalf("Count(%d) = %d, %d", n, c, int(e))
		}
	}
}

func TestCountOfSizesThatMayNotBe(t *testing.T) { // P8.4, P8.5, P0.1
	for _, n := range []int64{-1, -2, math.MinInt64, 1<<48 + 1, 1<<48 + 2, 1 << 49, 1 << 62, math.MaxInt64} {
		if c, e := tlog.Count(n); c != 0 || e != api.ErrArg {
			t.Errorf("Count(%d) = %d, %d", n, c, int(e))
		}
		if l, e := tlog.Peaks(n); len(l) != 0 || e != api.ErrArg {
			t.Errorf("Peaks(%d) = %v, %d", n, l, int(e))
		}
	}
}

func TestRecordsBetweenTwoCounts(t *testing.T) { // P8.4
	for _, n := range manySizes() {
		if n == 0 {
			continue
		}
		for count := trueCount(n-1) + 1; count < trueCount(n); count++ {
			records(t, count, 0, api.ErrStored)
		}
	}
	for _, count := range []int64{2, 5, 6, 9, -1, -2, math.MinInt64, 1<<49 - 2, 1 << 49, 1<<49 + 1, 1<<49 + 2, 1 << 50, 1<<50 - 2, math.MaxInt64} {
		records(t, count, 0, api.ErrStored)
	}
	records(t, 1<<49-1, 1<<48, api.OK)
}

// truePeaks: the greatest power of two is taken off again and again.
func truePeaks(n int64) []int64 {
	var list []int64
	for from := int64(0); from < n; {
		level := 0
		for 2<<level <= n-from {
			level++
		}
		from += 1 << level
		list = append(list, trueCount(from)-1) // the top of a whole tree is laid down last of it
	}
	return list
}

func TestPeaksByDefinition(t *testing.T) { // P8.5
	for _, n := range manySizes() {
		if l, e := tlog.Peaks(n); !slices.Equal(l, truePeaks(n)) || e != api.OK {
			t.Errorf("Peaks(%d) = %v, %d, want %v", n, l, int(e), truePeaks(n))
		}
	}
}

func TestPeaksOfTheExamples(t *testing.T) { // P8.5
	for n, want := range map[int64][]int64{0: nil, 1: {0}, 7: {6, 9, 10}, 8: {14}, 1 << 48: {1<<49 - 2}} {
		if l, e := tlog.Peaks(n); !slices.Equal(l, want) || e != api.OK {
			t.Errorf("Peaks(%d) = %v, %d, want %v", n, l, int(e), want)
		}
	}
	if l, _ := tlog.Peaks(1<<48 - 1); len(l) != 48 {
		t.Errorf("Peaks(2^48 - 1): %d places, want 48", len(l))
	}
}
