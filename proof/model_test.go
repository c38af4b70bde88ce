package proof_test

import (
	"bytes"
	"crypto/sha256"
	"math"
	"math/rand"
	"slices"

	"ledger/api"
	"ledger/proof"
)

// The document's words, turned into code as they stand: ranges, ways, proofs, climbs.

// strengths: the edges of what is kept, and numbers that mean all of it.
var strengths = []int{0, 1, 2, 16, 30, 31, 32, 33, -1, -5, 99, math.MaxInt, math.MinInt}

// trueHash: of the bytes put together, by the library.
func trueHash(k int, pieces ...[]byte) (h api.Hash) {
	kept := 32
	if k >= 1 && k <= 31 {
		kept = k
	}
	full := sha256.Sum256(slices.Concat(pieces...))
	copy(h[:kept], full[:])
	return h
}

func trueLeaf(k int, data []byte) api.Hash { return trueHash(k, []byte{0}, data) }

func trueNode(k int, left, right api.Hash) api.Hash {
	return trueHash(k, []byte{1}, left[:], right[:])
}

// area: the range a..b.
type area struct{ a, b int64 }

func cutOf(r area) int64 {
	power := int64(1)
	for 2*power < r.b-r.a {
		power *= 2
	}
	return r.a + power
}

// trueRoot: of the tree over a range of these leaves.
func trueRoot(k int, leaves []api.Hash, r area) api.Hash {
	if r.b-r.a == 1 {
		return leaves[r.a]
	}
	c := cutOf(r)
	return trueNode(k, trueRoot(k, leaves, area{r.a, c}), trueRoot(k, leaves, area{c, r.b}))
}

func recordWay(i int64, r area) []area {
	if r.b-r.a == 1 {
		return nil
	}
	c := cutOf(r)
	if i < c {
		return append(recordWay(i, area{r.a, c}), area{c, r.b})
	}
	return append(recordWay(i, area{c, r.b}), area{r.a, c})
}

func treeWay(m int64, r area) []area {
	if m == r.b {
		if r.a == 0 {
			return nil
		}
		return []area{r}
	}
	c := cutOf(r)
	if m <= c {
		return append(treeWay(m, area{r.a, c}), area{c, r.b})
	}
	return append(treeWay(m, area{c, r.b}), area{r.a, c})
}

// countOf: n, and the whole parts of n/2, n/4, ..
func countOf(n int64) int64 {
	sum := int64(0)
	for ; n > 0; n /= 2 {
		sum += n
	}
	return sum
}

// placeOf: of a whole range: its hash is laid down with its last record, behind those of the lower levels.
func placeOf(r area) int64 {
	level := int64(0)
	for width := r.b - r.a; width > 1; width /= 2 {
		level++
	}
	return countOf(r.b-1) + level
}

func isWhole(r area) bool {
	power := int64(1)
	for power < r.b-r.a {
		power *= 2
	}
	return power == r.b-r.a
}

func truePeaks(r area) []int64 {
	if isWhole(r) {
		return []int64{placeOf(r)}
	}
	c := cutOf(r)
	return append([]int64{placeOf(area{r.a, c})}, truePeaks(area{c, r.b})...)
}

// peaksAll: of each range its peaks.
func peaksAll(way []area) [][]int64 {
	var lists [][]int64
	for _, r := range way {
		lists = append(lists, truePeaks(r))
	}
	return lists
}

// rootsAll: of each range its root.
func rootsAll(k int, leaves []api.Hash, way []area) []api.Hash {
	var list []api.Hash
	for _, r := range way {
		list = append(list, trueRoot(k, leaves, r))
	}
	return list
}

func trueRecord(k int, leaves []api.Hash, n, i int64) []api.Hash {
	return rootsAll(k, leaves, recordWay(i, area{0, n}))
}

func trueTree(k int, leaves []api.Hash, n, m int64) []api.Hash {
	return rootsAll(k, leaves, treeWay(m, area{0, n}))
}

// sayings: what a climb says of ranges: the proof's own hashes, and those that the climb has (new ones and old ones).
type sayings struct {
	own, fresh, old map[area]api.Hash
}

func newSayings(p []api.Hash, way []area) sayings {
	s := sayings{map[area]api.Hash{}, map[area]api.Hash{}, map[area]api.Hash{}}
	for j, r := range way {
		s.own[r] = p[j]
	}
	return s
}

// climbedRecord: from the leaf up, by recursion from the top.
func climbedRecord(k int, p []api.Hash, n, i int64, leaf api.Hash) sayings {
	s := newSayings(p, recordWay(i, area{0, n}))
	var up func(r area) api.Hash
	up = func(r area) (h api.Hash) {
		defer func() { s.fresh[r] = h }()
		if r.b-r.a == 1 {
			return leaf
		}
		c := cutOf(r)
		if i < c {
			return trueNode(k, up(area{r.a, c}), s.own[area{c, r.b}])
		}
		return trueNode(k, s.own[area{r.a, c}], up(area{c, r.b}))
	}
	up(area{0, n})
	return s
}

// climbedTree: from the seed up, by recursion from the top. The old hash of a range that m cuts is kept by the range's part below m.
func climbedTree(k int, p []api.Hash, n, m int64, old api.Hash) sayings {
	s := newSayings(p, treeWay(m, area{0, n}))
	var up func(r area) (api.Hash, api.Hash)
	up = func(r area) (fresh, aged api.Hash) {
		defer func() { s.fresh[r], s.old[area{r.a, m}] = fresh, aged }()
		if r.b == m {
			if r.a == 0 {
				return old, old
			}
			return s.own[r], s.own[r]
		}
		c := cutOf(r)
		if m <= c {
			f, o := up(area{r.a, c})
			return trueNode(k, f, s.own[area{c, r.b}]), o
		}
		f, o := up(area{c, r.b})
		left := s.own[area{r.a, c}]
		return trueNode(k, left, f), trueNode(k, left, o)
	}
	up(area{0, n})
	return s
}

func nodeBytes(left, right api.Hash) []byte {
	return slices.Concat([]byte{1}, left[:], right[:])
}

// seedOf: the range at which the way from m in n ends.
func seedOf(n, m int64) area {
	r := area{0, n}
	for r.b != m {
		if c := cutOf(r); m <= c {
			r = area{r.a, c}
		} else {
			r = area{c, r.b}
		}
	}
	return r
}

// trueLift: P9.8 behind its checks.
func trueLift(k int, m int64, old api.Hash, i int64, leaf api.Hash, record []api.Hash, n int64, tree []api.Hash) ([]api.Hash, proof.Pair, api.Errno) {
	byRecord := climbedRecord(k, record, m, i, leaf)
	byTree := climbedTree(k, tree, n, m, old)
	for r := (area{0, m}); r != seedOf(n, m); {
		c := cutOf(r)
		left, right := area{r.a, c}, area{c, m}
		a := nodeBytes(byRecord.fresh[left], byRecord.own[right])
		if i >= c {
			a = nodeBytes(byRecord.own[left], byRecord.fresh[right])
		}
		b := nodeBytes(byTree.own[left], byTree.old[right])
		if !bytes.Equal(a, b) {
			return nil, proof.Pair{A: a, B: b}, api.ErrParts
		}
		if i < c {
			break
		}
		r = right
	}
	var list []api.Hash
	for _, r := range recordWay(i, area{0, n}) {
		h, ok := byRecord.own[r]
		if !ok {
			h, ok = byTree.own[r]
		}
		if !ok {
			h = byTree.fresh[r]
		}
		list = append(list, h)
	}
	return list, proof.Pair{}, api.OK
}

// someHashes: n unlike hashes of 32 bytes that no strength has cut.
func someHashes(n int) []api.Hash {
	list := make([]api.Hash, n)
	for i := range list {
		list[i] = sha256.Sum256([]byte{byte(i), byte(i >> 8), byte(i >> 16), 'h'})
		list[i][31] |= 1
	}
	return list
}

// smallHash: one of few, so that hashes of strength 1 are soon met again.
func smallHash(chance *rand.Rand) api.Hash { return api.Hash{byte(chance.Intn(256))} }

func smallHashes(chance *rand.Rand, n int) []api.Hash {
	list := make([]api.Hash, n)
	for i := range list {
		list[i] = smallHash(chance)
	}
	return list
}

// sizes: of great trees, the edges of powers of two and what chance gives.
func sizes(chance *rand.Rand) []int64 {
	list := []int64{1, 2, 3, 1<<47 - 1, 1 << 47, 1<<47 + 1, 1<<48 - 1, 1 << 48}
	for range 60 {
		list = append(list, 1+chance.Int63n(1<<(1+chance.Intn(48))))
	}
	return list
}

// ids: of a tree of n, its edges and what chance gives.
func ids(chance *rand.Rand, n int64) []int64 {
	list := []int64{0, n - 1, n / 2, (n - 1) / 2}
	for range 8 {
		list = append(list, chance.Int63n(n))
	}
	return list
}
