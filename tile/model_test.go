package tile_test

import (
	"crypto/sha256"
	"fmt"
	"math"
	"math/big"
	"math/rand"
	"slices"
	"strings"

	"ledger/api"
	"ledger/tile"
)

// The document's words, turned into code as they stand: numbers, paths, widths, bytes, plans, readings.

const maxRecords = int64(1) << 48

// strengths: the edges of what is kept, and numbers that mean all of it.
var strengths = []int{0, 1, 2, 16, 30, 31, 32, 33, -1, -5, 99, math.MaxInt, math.MinInt}

// heights: all that there are.
var heights = []int{1, 2, 3, 4, 5, 6, 7, 8}

// noHeights: numbers beside them.
var noHeights = []int{0, 9, 10, -1, -8, 63, 64, 256, math.MaxInt, math.MinInt}

func at(h, l int, n int64, w int) tile.Tile { return tile.Tile{H: h, L: l, N: n, W: w} }

func dataTile(h int, n int64, w int) tile.Tile { return tile.Tile{H: h, N: n, W: w, Data: true} }

// trueHash: of the bytes put together, by the library.
func trueHash(k int, pieces ...[]byte) (h api.Hash) {
	kept := 32
	if k >= 1 && k <= 31 {
		kept = k
	}
	full := sha256.Sum256(slices.Concat(pieces...))
	copy(h[:kept], full[:])
	return h
}

func trueNode(k int, left, right api.Hash) api.Hash {
	return trueHash(k, []byte{1}, left[:], right[:])
}

// trueFold: with the first one outermost.
func trueFold(k int, peaks []api.Hash) api.Hash {
	switch len(peaks) {
	case 0:
		return trueHash(k)
	case 1:
		return peaks[0]
	}
	return trueNode(k, peaks[0], trueFold(k, peaks[1:]))
}

// trueCount: n, and the whole parts of n/2, n/4, ..
func trueCount(n int64) int64 {
	sum := int64(0)
	for ; n > 0; n /= 2 {
		sum += n
	}
	return sum
}

// node: a level and a number.
type node struct {
	level  int
	number int64
}

// placeOf: a node is laid down with the last record below it, so many behind its leaf.
func placeOf(v node) int64 {
	last := (v.number+1)<<v.level - 1
	return trueCount(last) + int64(v.level)
}

// nodeAt: the node of a place; the record that was laid down there is sought by halves.
func nodeAt(place int64) node {
	low, high := int64(0), maxRecords
	for high-low > 1 {
		if mid := (low + high) / 2; trueCount(mid) <= place {
			low = mid
		} else {
			high = mid
		}
	}
	level := int(place - trueCount(low))
	return node{level, (low+1)>>level - 1}
}

// truePeaks: the nodes, from left to right.
func truePeaks(n int64) []node {
	var list []node
	for level := 48; level >= 0; level-- {
		if n>>level&1 == 1 {
			list = append(list, node{level, n>>level - 1})
		}
	}
	return list
}

func power(exponent int64) *big.Int {
	return new(big.Int).Lsh(big.NewInt(1), uint(exponent))
}

// mayBe: of a tile's numbers, with numbers of any length.
func mayBe(t tile.Tile) bool {
	if t.H < 1 || t.H > 8 || t.W < 1 || t.W > 1<<t.H || t.L < 0 || t.N < 0 || t.Data && t.L != 0 {
		return false
	}
	if t.L > 1000 { // the power alone is beyond the bound
		return false
	}
	end := new(big.Int).Mul(big.NewInt(t.N), power(int64(t.H)))
	end.Add(end, big.NewInt(int64(t.W)))
	end.Mul(end, power(int64(t.H)*int64(t.L)))
	return end.Cmp(big.NewInt(maxRecords)) <= 0
}

// truePath: of a tile whose numbers may be.
func truePath(t tile.Tile) string {
	digits := fmt.Sprint(t.N)
	digits = strings.Repeat("0", (3-len(digits)%3)%3) + digits
	var groups []string
	for i := 0; i < len(digits); i += 3 {
		mark := "x"
		if i+3 == len(digits) {
			mark = ""
		}
		groups = append(groups, mark+digits[i:i+3])
	}
	level := fmt.Sprint(t.L)
	if t.Data {
		level = "data"
	}
	path := fmt.Sprintf("tile/%d/%s/%s", t.H, level, strings.Join(groups, "/"))
	if t.W != 1<<t.H {
		path += fmt.Sprintf(".p/%d", t.W)
	}
	return path
}

// trueWidth: with numbers of any length.
func trueWidth(h, l int, n, size int64) int {
	if l > 1000 {
		return 0
	}
	c := new(big.Int).Div(big.NewInt(size), power(int64(h)*int64(l)))
	w := c.Sub(c, new(big.Int).Mul(big.NewInt(n), power(int64(h))))
	switch {
	case w.Sign() < 0:
		return 0
	case w.Cmp(power(int64(h))) > 0:
		return 1 << h
	}
	return int(w.Int64())
}

// trueRun: the first and the last of the nodes of a tile's level above which a node stands, and their tile with the least width.
func trueRun(h int, v node) (first, last int64, t tile.Tile) {
	l := v.level / h
	r := v.level - h*l
	first, last = v.number<<r, (v.number+1)<<r-1
	n := first / (1 << h)
	return first, last, at(h, l, n, int(last-n*(1<<h))+1)
}

// trueTile: the tile of a place, at full width.
func trueTile(h int, size, place int64) tile.Tile {
	_, _, t := trueRun(h, nodeAt(place))
	t.W = trueWidth(h, t.L, t.N, size)
	return t
}

// trueAll: all tiles, found one by one.
func trueAll(h int, size int64) []tile.Tile {
	var list []tile.Tile
	for l := range 49 {
		for n := int64(0); trueWidth(h, l, n, size) > 0; n++ {
			list = append(list, at(h, l, n, trueWidth(h, l, n, size)))
		}
	}
	return list
}

func trueFresh(h int, old, size int64) []tile.Tile {
	return slices.DeleteFunc(trueAll(h, size), func(t tile.Tile) bool {
		return trueWidth(h, t.L, t.N, old) == t.W
	})
}

// topOf: the node above all hashes of a full tile.
func topOf(t tile.Tile) node { return node{t.H * (t.L + 1), t.N} }

func isFull(t tile.Tile) bool { return t.W == 1<<t.H }

// truePlan: steps 1 to 3, then the order.
func truePlan(h int, size int64, places []int64) []tile.Tile {
	var list []tile.Tile
	seen := map[tile.Tile]bool{}
	add := func(place int64) {
		if t := trueTile(h, size, place); !seen[t] {
			seen[t] = true
			list = append(list, t)
		}
	}
	for _, peak := range truePeaks(size) {
		add(placeOf(peak))
	}
	for _, place := range places {
		add(place)
	}
	for i := 0; i < len(list); i++ {
		if isFull(list[i]) {
			add(placeOf(topOf(list[i])))
		}
	}
	slices.SortFunc(list, func(a, b tile.Tile) int {
		if a.L != b.L {
			return b.L - a.L
		}
		return int(a.N - b.N)
	})
	return list
}

// trueJoined: neighbours joined till one is left.
func trueJoined(k int, hashes []api.Hash) api.Hash {
	if len(hashes) == 1 {
		return hashes[0]
	}
	half := len(hashes) / 2
	return trueNode(k, trueJoined(k, hashes[:half]), trueJoined(k, hashes[half:]))
}

// hashesIn: the bytes of a hash tile, cut.
func hashesIn(data []byte) []api.Hash {
	list := make([]api.Hash, len(data)/32)
	for i := range list {
		copy(list[i][:], data[32*i:])
	}
	return list
}

// trueInside: the hash of a node by a tile that has all that it stands above.
func trueInside(k int, t tile.Tile, data []byte, v node) api.Hash {
	first, last, _ := trueRun(t.H, v)
	begin := t.N << t.H
	return trueJoined(k, hashesIn(data)[first-begin:last-begin+1])
}

// asked: what Read is handed.
type asked struct {
	k, h   int
	size   int64
	root   api.Hash
	tiles  []tile.Tile
	datas  [][]byte
	places []int64
}

func (a asked) read() ([]api.Hash, api.Errno) {
	return tile.Read(a.k, a.h, a.size, a.root, a.tiles, a.datas, a.places)
}

// trueRead: P10.13, line by line.
func trueRead(a asked) ([]api.Hash, api.Errno) {
	switch {
	case len(a.datas) != len(a.tiles):
		return nil, api.ErrCount
	case len(a.tiles) > 4096, len(a.places) > 1024 && a.h >= 1 && a.h <= 8 && a.size >= 0 && a.size <= maxRecords:
		return nil, api.ErrLong
	case a.h < 1 || a.h > 8 || a.size < 0 || a.size > maxRecords:
		return nil, api.ErrArg
	}
	for _, place := range a.places {
		if place < 0 || place >= trueCount(a.size) {
			return nil, api.ErrOutside
		}
	}
	plan := truePlan(a.h, a.size, a.places)
	data := map[tile.Tile][]byte{}
	for _, t := range plan {
		i := slices.Index(a.tiles, t)
		if i < 0 {
			return nil, api.ErrMissing
		}
		if len(a.datas[i]) != 32*t.W {
			return nil, api.ErrWidth
		}
		data[t] = a.datas[i]
	}
	stored := func(v node) api.Hash {
		t := trueTile(a.h, a.size, placeOf(v))
		return trueInside(a.k, t, data[t], v)
	}
	var peaks, hashes []api.Hash
	for _, v := range truePeaks(a.size) {
		peaks = append(peaks, stored(v))
	}
	if trueFold(a.k, peaks) != a.root {
		return nil, api.ErrAuth
	}
	for _, t := range plan {
		if isFull(t) && trueJoined(a.k, hashesIn(data[t])) != stored(topOf(t)) {
			return nil, api.ErrAuth
		}
	}
	for _, place := range a.places {
		hashes = append(hashes, stored(nodeAt(place)))
	}
	return hashes, api.OK
}

// trees: the nodes of a tree, each by its level and number.
type trees interface {
	hash(v node) api.Hash
}

// grown: a tree over leaves.
type grown struct {
	k      int
	leaves []api.Hash
}

func (g grown) hash(v node) api.Hash {
	return trueJoined(g.k, g.leaves[v.number<<v.level:(v.number+1)<<v.level])
}

// even: a tree of any size, all of whose leaves are the same, so that all nodes of a level are.
type even struct {
	levels []api.Hash
}

func newEven(k int, leaf api.Hash) even {
	e := even{[]api.Hash{leaf}}
	for level := range 48 {
		e.levels = append(e.levels, trueNode(k, e.levels[level], e.levels[level]))
	}
	return e
}

func (e even) hash(v node) api.Hash { return e.levels[v.level] }

// bytesOf: of a hash tile.
func bytesOf(tree trees, t tile.Tile) []byte {
	var data []byte
	for i := range int64(t.W) {
		h := tree.hash(node{t.H * t.L, t.N<<t.H + i})
		data = append(data, h[:]...)
	}
	return data
}

// rightly: a reading of these places with all that it needs.
func rightly(tree trees, k, h int, size int64, places []int64) asked {
	a := asked{k: k, h: h, size: size, places: places, tiles: truePlan(h, size, places)}
	for _, t := range a.tiles {
		a.datas = append(a.datas, bytesOf(tree, t))
	}
	var peaks []api.Hash
	for _, v := range truePeaks(size) {
		peaks = append(peaks, tree.hash(v))
	}
	a.root = trueFold(k, peaks)
	return a
}

// trueStored: the hashes of a tree in the order of their places.
func trueStored(g grown) []api.Hash {
	list := make([]api.Hash, trueCount(int64(len(g.leaves))))
	for i := range list {
		list[i] = g.hash(nodeAt(int64(i)))
	}
	return list
}

// someHashes: n unlike hashes of 32 bytes that no strength has cut.
func someHashes(n int) []api.Hash {
	list := make([]api.Hash, n)
	for i := range list {
		list[i] = sha256.Sum256([]byte{byte(i), byte(i >> 8), byte(i >> 16), 'h'})
		list[i][31] |= 1
	}
	return list
}

// someBytes: n of them, as chance gives them.
func someBytes(chance *rand.Rand, n int) []byte {
	b := make([]byte, n)
	chance.Read(b)
	return b
}

// greatSizes: the edges of powers of two and what chance gives.
func greatSizes(chance *rand.Rand) []int64 {
	list := []int64{0, 1, 2, 3, 1<<47 - 1, 1 << 47, 1<<47 + 1, maxRecords - 1, maxRecords}
	for level := range 48 {
		list = append(list, 1<<level+chance.Int63n(1<<level), 1<<level)
	}
	return list
}

// somePlaces: n of a tree that is not empty, its first and last ones among them.
func somePlaces(chance *rand.Rand, size int64, n int) []int64 {
	count := trueCount(size)
	list := []int64{0, count - 1}
	for len(list) < n {
		place := chance.Int63n(count)
		if v := nodeAt(chance.Int63n(count)); chance.Intn(2) == 0 { // nodes of high levels are rare
			level := v.level + chance.Intn(49)
			if level <= 48 && (v.number>>(level-v.level)+1)<<level <= size {
				place = placeOf(node{level, v.number >> (level - v.level)})
			}
		}
		list = append(list, place)
	}
	return list[:n]
}

// everyPlace: of a tree.
func everyPlace(size int64) []int64 {
	list := make([]int64, trueCount(size))
	for i := range list {
		list[i] = int64(i)
	}
	return list
}
