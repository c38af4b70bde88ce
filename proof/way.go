// Package proof (layer 9): that a record is in a tree, that one tree goes on from another; and what it means if two proofs part. See DOC.md, chapter 9. k is tlog's strength.
package proof

import (
	"math/bits"
	"slices"

	"ledger/api"
	"ledger/tlog"
)

// span: the records from one id to another, the last one not among them.
type span struct {
	from, to int64
}

func (s span) size() int64 { return s.to - s.from }

func (s span) whole() bool { return s.size()&(s.size()-1) == 0 }

// children: what the left and the right child of the tree over two records or more stand above.
func (s span) children() (left, right span) {
	cut := s.from + int64(1)<<(bits.Len64(uint64(s.size()-1))-1)
	return span{s.from, cut}, span{cut, s.to}
}

// place: of the one stored hash of a whole span.
func (s span) place() int64 {
	level := bits.Len64(uint64(s.size())) - 1
	place, _ := tlog.Index(level, s.from>>level)
	return place
}

// peaks: the places of the stored hashes of which the tree over a span is made, from left to right.
func (s span) peaks() []int64 {
	var places []int64
	for !s.whole() {
		left, right := s.children()
		places = append(places, left.place())
		s = right
	}
	return append(places, s.place())
}

// goal: where a walk down a tree ends: at a record; or, with seed, at the seed of the smaller tree whose last record that is.
type goal struct {
	id   int64
	seed bool
}

func recordGoal(i int64) goal { return goal{id: i} }

func treeGoal(m int64) goal { return goal{id: m - 1, seed: true} }

// within: may there be a tree of n, and is the goal in it?
func (g goal) within(n int64) bool { return n <= api.MaxRecords && g.id >= 0 && g.id < n }

func (g goal) reached(s span) bool {
	if g.seed {
		return s.to == g.id+1
	}
	return s.size() == 1
}

// held: is the span at which the walk ends one of the way's own? That of a record never is, and a seed that is the whole of the smaller tree has its root for a hash.
func (g goal) held(s span) bool { return g.seed && s.from > 0 }

// walk: goes down the tree of n to a goal, and answers what of makes of each span of the way there, the lowest first.
func walk[T any](n int64, g goal, of func(span) T) []T {
	var way []T
	at := span{0, n}
	for !g.reached(at) {
		left, right := at.children()
		if g.id < left.to {
			way = append(way, of(right))
			at = left
		} else {
			way = append(way, of(left))
			at = right
		}
	}
	if g.held(at) {
		way = append(way, of(at))
	}
	slices.Reverse(way)
	return way
}

// spans: those of the way to a goal.
func spans(n int64, g goal) []span {
	return walk(n, g, func(s span) span { return s })
}

// RecordPlaces: the places of the stored hashes of which the proof for record i in the tree of n is made, each whole subtree by itself, from left to right; the proof's hash number j is the Fold of list j. ErrArg (n below 1 or above MaxRecords, i below 0 or not below n).
func RecordPlaces(n, i int64) ([][]int64, api.Errno) { return placesTo(n, recordGoal(i)) }

// TreePlaces: likewise for the proof that the tree of n goes on from the tree of m; none with m = n. ErrArg (n below 1 or above MaxRecords, m below 1 or above n).
func TreePlaces(n, m int64) ([][]int64, api.Errno) { return placesTo(n, treeGoal(m)) }

func placesTo(n int64, g goal) ([][]int64, api.Errno) {
	if !g.within(n) {
		return nil, api.ErrArg
	}
	return walk(n, g, span.peaks), api.OK
}
