package tile_test

import (
	"fmt"
	"math"
	"math/rand"
	"slices"
	"testing"

	"ledger/api"
	"ledger/tile"
	"ledger/tlog"
)

// reads: as the document's words have it; answers with which error.
func reads(t *testing.T, what string, a asked) api.Errno {
	t.Helper()
	want, errno := trueRead(a)
	if l, e := a.read(); !slices.Equal(l, want) || e != errno {
		t.Errorf("%s: Read of strength %d, height %d, %d records, %d tiles, %d places = %d hashes, %d, want %d hashes, %d", what, a.k, a.h, a.size, len(a.tiles), len(a.places), len(l), int(e), len(want), int(errno))
	}
	return errno
}

// readsWith: just this error, whatever else.
func readsWith(t *testing.T, what string, a asked, want api.Errno) {
	t.Helper()
	if e := reads(t, what, a); e != want {
		t.Errorf("%s: the words have %d, want %d", what, int(e), int(want))
	}
}

// copied: a reading whose lists can be changed.
func (a asked) copied() asked {
	a.tiles = slices.Clone(a.tiles)
	a.datas = slices.Clone(a.datas)
	for i := range a.datas {
		a.datas[i] = slices.Clone(a.datas[i])
	}
	a.places = slices.Clone(a.places)
	return a
}

// shuffled: its tiles in another order.
func (a asked) shuffled(chance *rand.Rand) asked {
	a = a.copied()
	chance.Shuffle(len(a.tiles), func(i, j int) {
		a.tiles[i], a.tiles[j] = a.tiles[j], a.tiles[i]
		a.datas[i], a.datas[j] = a.datas[j], a.datas[i]
	})
	return a
}

func TestReadOfTheExamples(t *testing.T) { // P10.13
	a := rightly(grown{0, someHashes(7)}, 0, 2, 7, nil)
	readsWith(t, "as it is", a, api.OK)
	slices.Reverse(a.tiles)
	slices.Reverse(a.datas)
	readsWith(t, "in another order", a, api.OK)
	b := a.copied()
	b.tiles, b.datas = b.tiles[1:], b.datas[1:]
	readsWith(t, "without one", b, api.ErrMissing)
	b = a.copied()
	b.tiles[0], b.datas[0] = at(2, 0, 1, 4), make([]byte, 128)
	readsWith(t, "with 4 for its W", b, api.ErrMissing)
	b = a.copied()
	b.datas[0] = b.datas[0][:64]
	readsWith(t, "with 64 of its bytes", b, api.ErrWidth)
	b = a.copied()
	b.datas[0][5] ^= 0x10
	readsWith(t, "with one bit turned", b, api.ErrAuth)
	for _, k := range strengths {
		none := asked{k: k, h: 2, root: trueHash(k)}
		readsWith(t, "of size 0", none, api.OK)
		none.root[0] ^= 1
		readsWith(t, "of size 0, with another root", none, api.ErrAuth)
		none.root = api.Hash{}
		readsWith(t, "of size 0, with a root of zeros", none, api.ErrAuth)
	}
}

func TestReadOfWholeTrees(t *testing.T) { // P10.13, P10.14: all places, each alone, and none, by the bytes that FromTree gives
	chance := rand.New(rand.NewSource(13))
	for _, k := range []int{0, 1, 5} {
		for size := range int64(36) {
			stored, _ := tlog.Build(k, someHashes(int(size)))
			root, _ := tlog.Root(k, stored, size)
			for _, h := range heights {
				all := everyPlace(size)
				a := asked{k: k, h: h, size: size, root: root, places: all}
				a.tiles, _ = tile.Plan(h, size, all)
				for _, u := range a.tiles {
					b, _ := tile.FromTree(stored, u)
					a.datas = append(a.datas, b)
				}
				if l, e := a.shuffled(chance).read(); !slices.Equal(l, stored) || e != api.OK {
					t.Fatalf("of all places of %d records, height %d: %d", size, h, int(e))
				}
				a.places = nil
				readsWith(t, "of no place", a, api.OK)
				for _, place := range all {
					a.places = []int64{place, place}
					if l, e := a.read(); !slices.Equal(l, []api.Hash{stored[place], stored[place]}) || e != api.OK {
						t.Fatalf("of place %d of %d records, height %d: %d", place, size, h, int(e))
					}
				}
			}
		}
	}
}

func TestReadOfMiddlingTrees(t *testing.T) { // P10.14: with full tiles of all heights
	chance := rand.New(rand.NewSource(14))
	for _, size := range []int64{255, 256, 257, 1000, 5000, 65536} {
		stored, _ := tlog.Build(0, someHashes(int(size)))
		root, _ := tlog.Root(0, stored, size)
		for _, h := range heights {
			a := asked{h: h, size: size, root: root, places: somePlaces(chance, size, 200)}
			a.tiles, _ = tile.Plan(h, size, a.places)
			for _, u := range a.tiles {
				b, _ := tile.FromTree(stored, u)
				a.datas = append(a.datas, b)
			}
			l, e := a.shuffled(chance).read()
			if len(l) != 200 || e != api.OK {
				t.Fatalf("of %d records, height %d: %d hashes, %d", size, h, len(l), int(e))
			}
			for i, place := range a.places {
				if l[i] != stored[place] {
					t.Errorf("of %d records, height %d: place %d isn't its stored hash", size, h, place)
				}
			}
		}
	}
}

func TestReadOfGreatTrees(t *testing.T) { // P10.13: up to 2^48 records, all leaves the same
	chance := rand.New(rand.NewSource(15))
	for _, k := range []int{0, 2} {
		tree := newEven(k, someHashes(1)[0])
		for _, h := range heights {
			for _, size := range greatSizes(chance) {
				readsWith(t, "of no place", rightly(tree, k, h, size, nil), api.OK)
				if size == 0 || h == 8 && size%3 != 0 {
					continue
				}
				a := rightly(tree, k, h, size, somePlaces(chance, size, 3))
				l, e := a.read()
				for i, place := range a.places {
					if e != api.OK || l[i] != tree.hash(nodeAt(place)) {
						t.Fatalf("of %d records, height %d, place %d: %d", size, h, place, int(e))
					}
				}
				a.root[31] ^= 1
				readsWith(t, "with another root", a, api.ErrAuth)
			}
		}
	}
}

func TestReadWithEachByteTurned(t *testing.T) { // P10.13: of strength 32, nothing that was turned passes
	for _, size := range []int64{1, 2, 7, 16, 21} {
		for _, h := range []int{1, 2, 3, 8} {
			for _, places := range [][]int64{nil, {0}, {trueCount(size) - 1}, everyPlace(size)} {
				a := rightly(grown{0, someHashes(int(size))}, 0, h, size, places)
				for i, data := range a.datas {
					for j := range data {
						data[j] ^= 1 << (j % 8)
						if l, e := a.read(); len(l) != 0 || e != api.ErrAuth {
							t.Fatalf("%d records, height %d: byte %d of %+v turned: %d hashes, %d", size, h, j, a.tiles[i], len(l), int(e))
						}
						data[j] ^= 1 << (j % 8)
					}
				}
				for j := range a.root {
					a.root[j] ^= 0x80
					readsWith(t, "with another root", a, api.ErrAuth)
					a.root[j] ^= 0x80
				}
				readsWith(t, "as it is", a, api.OK)
			}
		}
	}
}

func TestReadWithFullTilesExchanged(t *testing.T) { // P10.13: right hashes that stand elsewhere
	a := rightly(grown{0, someHashes(16)}, 0, 2, 16, everyPlace(16))
	for i := range a.datas {
		for j := range i {
			if len(a.datas[i]) == len(a.datas[j]) {
				b := a.copied()
				b.datas[i], b.datas[j] = b.datas[j], b.datas[i]
				readsWith(t, fmt.Sprintf("%+v and %+v exchanged", a.tiles[i], a.tiles[j]), b, api.ErrAuth)
			}
		}
	}
}

// nearTo: tiles that are another one by one of the numbers.
func nearTo(u tile.Tile) []tile.Tile {
	return []tile.Tile{
		{H: u.H + 1, L: u.L, N: u.N, W: u.W}, {H: u.H - 1, L: u.L, N: u.N, W: u.W}, {H: u.H, L: u.L + 1, N: u.N, W: u.W}, {H: u.H, L: u.L - 1, N: u.N, W: u.W},
		{H: u.H, L: u.L, N: u.N + 1, W: u.W}, {H: u.H, L: u.L, N: u.N - 1, W: u.W}, {H: u.H, L: u.L, N: u.N + 1<<32, W: u.W}, {H: u.H, L: u.L, N: u.N, W: u.W + 1}, {H: u.H, L: u.L, N: u.N, W: u.W - 1}, {H: u.H, L: u.L, N: u.N, W: u.W, Data: true},
	}
}

func TestReadWithATileMissing(t *testing.T) { // P10.13: at the first of the plan that has an error; the same in all numbers
	a := rightly(grown{0, someHashes(21)}, 0, 2, 21, everyPlace(21))
	for i, u := range a.tiles {
		b := a.copied()
		b.tiles, b.datas = slices.Delete(b.tiles, i, i+1), slices.Delete(b.datas, i, i+1)
		readsWith(t, "without one", b, api.ErrMissing)
		for _, near := range nearTo(u) {
			b := a.copied()
			b.tiles[i] = near
			readsWith(t, fmt.Sprintf("%+v for %+v", near, u), b, api.ErrMissing)
			b.datas[i] = make([]byte, max(0, 32*near.W))
			readsWith(t, fmt.Sprintf("%+v for %+v", near, u), b, api.ErrMissing)
		}
		for j := range a.tiles { // one is missing, another has another length
			if i == j {
				continue
			}
			b := a.copied()
			b.tiles[i], b.datas[j] = tile.Tile{}, b.datas[j][1:]
			want := api.ErrMissing
			if j < i {
				want = api.ErrWidth
			}
			readsWith(t, "one missing, one short", b, want)
			slices.Reverse(b.tiles)
			slices.Reverse(b.datas)
			readsWith(t, "one missing, one short, turned round", b, want)
		}
	}
	none := rightly(grown{0, someHashes(21)}, 0, 2, 21, nil)
	none.tiles, none.datas = nil, nil
	readsWith(t, "without any", none, api.ErrMissing)
}

func TestReadWithOtherLengths(t *testing.T) { // P10.13
	a := rightly(grown{0, someHashes(21)}, 0, 2, 21, everyPlace(21))
	for i := range a.tiles {
		for _, n := range []int{0, 1, 31, 32, 33, 63, 64, 65, 96, 127, 128, 129, 160, 8192} {
			if n != len(a.datas[i]) {
				b := a.copied()
				b.datas[i] = make([]byte, n)
				readsWith(t, "with another length", b, api.ErrWidth)
				b.root = api.Hash{}
				readsWith(t, "with another length and another root", b, api.ErrWidth)
			}
		}
	}
}

func TestReadLooksAtTheFirstAlone(t *testing.T) { // P10.13: not at others of the same numbers, nor at those that Plan doesn't name
	a := rightly(grown{0, someHashes(21)}, 0, 2, 21, []int64{3, 20})
	junk := []tile.Tile{{}, at(9, 9, 9, 9), at(math.MinInt, math.MinInt, math.MinInt64, math.MinInt), at(math.MaxInt, math.MaxInt, math.MaxInt64, math.MaxInt), at(2, 0, 1, 4), dataTile(2, 0, 4)}
	for i, u := range a.tiles {
		b := a.copied()
		b.tiles, b.datas = append(b.tiles, u), append(b.datas, nil)
		readsWith(t, "a second one without bytes", b, api.OK)
		b.datas[len(b.datas)-1] = make([]byte, 32*u.W)
		readsWith(t, "a second one with other bytes", b, api.OK)
		b.tiles, b.datas = slices.Insert(b.tiles, 0, u), slices.Insert(b.datas, 0, nil)
		readsWith(t, "a first one without bytes", b, api.ErrWidth)
		b.datas[0] = make([]byte, 32*u.W)
		readsWith(t, "a first one with other bytes", b, api.ErrAuth)
		b.datas[0] = b.datas[i+1]
		readsWith(t, "a first one with the same bytes", b, api.OK)
	}
	b := a.copied()
	for _, u := range junk {
		b.tiles, b.datas = slices.Insert(b.tiles, 0, u), slices.Insert(b.datas, 0, []byte("no tile"))
		b.tiles, b.datas = append(b.tiles, u), append(b.datas, nil)
	}
	readsWith(t, "with others beside them", b, api.OK)
}

func TestReadUpToTheBound(t *testing.T) { // P10.13, P10.14: 4096 tiles are taken
	a := rightly(grown{0, someHashes(21)}, 0, 2, 21, []int64{3, 20})
	for len(a.tiles) < 4096 {
		a.tiles, a.datas = slices.Insert(a.tiles, 0, tile.Tile{}), slices.Insert(a.datas, 0, nil)
	}
	readsWith(t, "4096 tiles", a, api.OK)
	a.tiles, a.datas = append(a.tiles, tile.Tile{}), append(a.datas, nil)
	readsWith(t, "4097 tiles", a, api.ErrLong)

	chance := rand.New(rand.NewSource(16))
	tree := newEven(0, someHashes(1)[0])
	b := rightly(tree, 0, 1, 1<<48, somePlaces(chance, 1<<48, 1024))
	if len(b.tiles) <= 4096 {
		t.Fatalf("a plan of height 1 has only %d tiles", len(b.tiles))
	}
	readsWith(t, "a long plan", b, api.ErrLong)
	b.tiles, b.datas = b.tiles[:4096], b.datas[:4096]
	readsWith(t, "4096 tiles of a longer plan", b, api.ErrMissing)

	places := b.places // as many as a plan of 4096 tiles at most asks for
	n := greatest(0, 1025, func(n int64) bool { return len(truePlan(1, 1<<48, places[:n])) <= 4096 })
	readsWith(t, "a plan of about 4096 tiles", rightly(tree, 0, 1, 1<<48, places[:n]), api.OK)
}

func TestReadErrorsInTheirOrder(t *testing.T) { // P10.13, P0.1
	a := rightly(grown{0, someHashes(7)}, 0, 2, 7, []int64{0})
	a.root = api.Hash{}
	b := a.copied()
	b.datas = b.datas[1:]
	b.h = 0
	readsWith(t, "fewer datas", b, api.ErrCount)
	b.datas = make([][]byte, 5000)
	readsWith(t, "more datas", b, api.ErrCount)
	b.tiles = make([]tile.Tile, 4999)
	readsWith(t, "fewer tiles, too many", b, api.ErrCount)
	b.tiles = make([]tile.Tile, 5000)
	readsWith(t, "too many tiles", b, api.ErrLong)
	b.tiles, b.datas, b.places = nil, nil, slices.Repeat([]int64{-1}, 1025)
	readsWith(t, "no height", b, api.ErrArg)
	b.h, b.size = 2, -1
	readsWith(t, "no size", b, api.ErrArg)
	b.size = 1<<48 + 1
	readsWith(t, "no size", b, api.ErrArg)
	b.size = 7
	readsWith(t, "too many places", b, api.ErrLong)
	b.places = b.places[:1024]
	readsWith(t, "places outside", b, api.ErrOutside)
	b.places = []int64{0, 11}
	readsWith(t, "a place outside", b, api.ErrOutside)
	b.places = []int64{0}
	readsWith(t, "no tiles", b, api.ErrMissing)
	a.datas[0] = nil
	readsWith(t, "no bytes", a, api.ErrWidth)
	for _, h := range noHeights {
		b.h = h
		readsWith(t, "no height", b, api.ErrArg)
	}
	b.h, b.size = 2, 0
	readsWith(t, "a place of no tree", b, api.ErrOutside)
	b.places = nil
	b.tiles, b.datas = []tile.Tile{{}}, [][]byte{nil}
	b.root = trueHash(0)
	readsWith(t, "of size 0 nothing is read", b, api.OK)
}

// spoilt: one thing or another of a reading is changed.
func (a asked) spoilt(chance *rand.Rand) asked {
	a = a.copied()
	i := chance.Intn(len(a.tiles))
	switch chance.Intn(8) {
	case 0:
		a.datas[i] = someBytes(chance, len(a.datas[i]))
	case 1:
		a.tiles[i] = nearTo(a.tiles[i])[chance.Intn(10)]
	case 2:
		a.tiles, a.datas = append(a.tiles, a.tiles[i]), append(a.datas, nil)
	case 3:
		a.places[chance.Intn(len(a.places))] = chance.Int63n(trueCount(a.size) + 1)
	case 4:
		a.datas[i] = a.datas[chance.Intn(len(a.datas))]
	default:
		if data := a.datas[i]; len(data) > 0 {
			data[chance.Intn(len(data))] ^= 1 << chance.Intn(8)
		}
	}
	return a
}

func TestReadOfSpoiltTiles(t *testing.T) { // P10.13: of weak strengths much passes by chance, and what is answered is fixed
	chance := rand.New(rand.NewSource(17))
	seen := map[api.Errno]int{}
	changed := 0
	for range 10000 {
		k := []int{0, 1, 1, 1, 2, 31}[chance.Intn(6)]
		size := 1 + chance.Int63n(40)
		leaves := someHashes(int(size))
		for i := range leaves { // few unlike ones, so that they meet
			leaves[i] = trueHash(k, []byte{byte(chance.Intn(20))})
		}
		a := rightly(grown{k, leaves}, k, heights[chance.Intn(4)], size, somePlaces(chance, size, 2+chance.Intn(3)))
		right, _ := a.read()
		for range 1 + chance.Intn(2) {
			a = a.spoilt(chance)
		}
		seen[reads(t, "spoilt", a)]++
		if l, e := a.read(); e == api.OK && !slices.Equal(l, right) {
			changed++
		}
	}
	for _, e := range []api.Errno{api.OK, api.ErrOutside, api.ErrMissing, api.ErrWidth, api.ErrAuth} {
		if seen[e] < 50 {
			t.Errorf("only %d readings with %d", seen[e], int(e))
		}
	}
	if changed < 20 {
		t.Errorf("only %d readings by chance of other hashes", changed)
	}
}

func TestReadTakesTopsAsTheyStand(t *testing.T) { // P10.13: the hash above a full tile is held against its top whole, the bytes beyond the strength too
	const k = 1
	leaves := make([]api.Hash, 8)
	for i := range leaves {
		leaves[i] = trueHash(k, []byte{byte(i)})
	}
	a := rightly(grown{k, leaves}, k, 2, 8, []int64{0})
	upper := a.datas[slices.Index(a.tiles, at(2, 1, 0, 2))]
	met := 0
	for j := 1; j < 32; j++ {
		for turn := 1; turn < 256; turn++ {
			upper[j] = byte(turn)
			if trueJoined(k, hashesIn(upper)) == a.root { // by chance the peak is the same
				met++
				readsWith(t, fmt.Sprintf("byte %d beyond the strength", j), a, api.ErrAuth)
			}
		}
		upper[j] = 0
	}
	if met == 0 {
		t.Error("no other hashes lead to the root")
	}
}
