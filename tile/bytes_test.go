package tile_test

import (
	"bytes"
	"math"
	"math/rand"
	"testing"

	"ledger/api"
	"ledger/tile"
)

func fromTreeIs(t *testing.T, stored []api.Hash, u tile.Tile, want []byte, errno api.Errno) {
	t.Helper()
	if b, e := tile.FromTree(stored, u); !bytes.Equal(b, want) || e != errno {
		t.Errorf("FromTree of %d hashes, %+v = %x, %d, want %x, %d", len(stored), u, b, int(e), want, int(errno))
	}
}

func insideIs(t *testing.T, k int, u tile.Tile, data []byte, place int64, want api.Hash, errno api.Errno) {
	t.Helper()
	if h, e := tile.Inside(k, u, data, place); h != want || e != errno {
		t.Errorf("Inside(%d, %+v, %d bytes, %d) = %x, %d, want %x, %d", k, u, len(data), place, h, int(e), want, int(errno))
	}
}

func TestFromTreeAllTiles(t *testing.T) { // P10.8: of each width up to that in the tree; beyond it ErrOutside
	for n := range 40 {
		tree := grown{0, someHashes(n)}
		stored := trueStored(tree)
		for _, h := range heights {
			for l := range 7 {
				for number := range int64(n>>h) + 2 {
					width := trueWidth(h, l, number, int64(n))
					for w := 1; w <= 1<<h; w++ {
						u := at(h, l, number, w)
						if w <= width {
							fromTreeIs(t, stored, u, bytesOf(tree, u), api.OK)
						} else if mayBe(u) {
							fromTreeIs(t, stored, u, nil, api.ErrOutside)
						}
					}
				}
			}
		}
	}
}

func TestFromTreeTakesHashesAsTheyAre(t *testing.T) { // P10.8: nothing is asked of what is stored
	stored := someHashes(11)
	fromTreeIs(t, stored, at(2, 1, 0, 1), stored[6][:], api.OK)
	fromTreeIs(t, stored, at(1, 1, 1, 1), stored[9][:], api.OK)
	fromTreeIs(t, stored, at(8, 0, 0, 1), stored[0][:], api.OK)
}

func TestFromTreeOfTheGreatestTree(t *testing.T) { // P10.8: 65536 records
	stored := someHashes(131071)
	fromTreeIs(t, stored, at(8, 2, 0, 1), stored[131070][:], api.OK)
	for _, u := range []tile.Tile{at(8, 0, 255, 256), at(8, 1, 0, 256), at(5, 3, 0, 2), at(1, 0, 32767, 2), at(4, 4, 0, 1)} {
		var want []byte
		for i := range int64(u.W) {
			h := stored[placeOf(node{u.H * u.L, u.N<<u.H + i})]
			want = append(want, h[:]...)
		}
		fromTreeIs(t, stored, u, want, api.OK)
	}
	fromTreeIs(t, stored, at(8, 0, 256, 1), nil, api.ErrOutside)
	fromTreeIs(t, stored, at(8, 2, 0, 2), nil, api.ErrOutside)
	fromTreeIs(t, stored, at(8, 3, 0, 1), nil, api.ErrOutside)
}

func TestFromTreeErrors(t *testing.T) { // P10.8, P0.1: and their order
	seven := trueStored(grown{0, someHashes(7)})
	long := make([]api.Hash, 131072)
	for _, stored := range [][]api.Hash{nil, seven, seven[:2], long} {
		for _, u := range []tile.Tile{{}, dataTile(2, 0, 1), dataTile(2, 1<<40, 1), at(0, 0, 0, 1), at(9, 0, 0, 1), at(2, 0, 0, 5), at(2, 0, 0, 0), at(2, -1, 0, 1), at(2, 0, -1, 1), at(2, 25, 0, 1), at(2, 1<<62, 0, 1), at(8, 0, math.MaxInt64, 1)} {
			fromTreeIs(t, stored, u, nil, api.ErrTile)
		}
	}
	for _, u := range []tile.Tile{at(2, 0, 0, 1), at(8, 6, 0, 1)} {
		fromTreeIs(t, long, u, nil, api.ErrLong)
		fromTreeIs(t, make([]api.Hash, 131074), u, nil, api.ErrLong)
		for _, n := range []int{2, 5, 6, 9} {
			fromTreeIs(t, seven[:n], u, nil, api.ErrStored)
		}
	}
	for _, u := range []tile.Tile{at(2, 0, 1, 4), at(2, 0, 2, 1), at(2, 2, 0, 1), at(2, 24, 0, 1), at(8, 0, 1<<40-1, 256), at(8, 6, 0, 1), at(8, 0, 0, 8), at(1, 48, 0, 1)} {
		fromTreeIs(t, seven, u, nil, api.ErrOutside)
	}
	fromTreeIs(t, nil, at(2, 0, 0, 1), nil, api.ErrOutside)
}

func TestInsideGivesTheStoredHash(t *testing.T) { // P10.9: of each place of a tree by each tile of each width, or ErrOutside
	const n = 37
	tree := grown{0, someHashes(n)}
	stored := trueStored(tree)
	for _, h := range heights {
		for _, full := range trueAll(h, n) {
			for w := 1; w <= full.W; w++ {
				u := at(h, full.L, full.N, w)
				data := bytesOf(tree, u)
				for place := range stored {
					_, _, least := trueRun(h, nodeAt(int64(place)))
					if least.L == u.L && least.N == u.N && least.W <= w {
						insideIs(t, 0, u, data, int64(place), stored[place], api.OK)
					} else {
						insideIs(t, 0, u, data, int64(place), api.Hash{}, api.ErrOutside)
					}
				}
			}
		}
	}
}

func TestInsideOfAnyBytes(t *testing.T) { // P10.9: at each strength; a hash that isn't joined is taken as it stands
	chance := rand.New(rand.NewSource(6))
	for _, k := range strengths {
		for _, h := range heights {
			for range 20 {
				v := nodeAt(chance.Int63n(1 << (1 + chance.Intn(48))))
				_, _, u := trueRun(h, v)
				for more := u; more.W <= 1<<h && mayBe(more); more.W += 1 + chance.Intn(20) {
					data := someBytes(chance, 32*more.W)
					insideIs(t, k, more, data, placeOf(v), trueInside(k, more, data, v), api.OK)
				}
				if u.W > 1 {
					u.W--
					insideIs(t, k, u, make([]byte, 32*u.W), placeOf(v), api.Hash{}, api.ErrOutside)
				}
			}
		}
	}
}

func TestInsideAtTheEdges(t *testing.T) { // P10.9: tiles at the end of the greatest tree
	chance := rand.New(rand.NewSource(7))
	for _, u := range []tile.Tile{at(8, 0, 1<<40-1, 256), at(1, 48, 0, 1), at(8, 6, 0, 1), at(7, 6, 0, 64), at(5, 9, 0, 8), at(1, 0, 1<<47-1, 2)} {
		data := someBytes(chance, 32*u.W)
		for place := int64(1<<49 - 2); place > 1<<49-600; place-- {
			v := nodeAt(place)
			_, _, least := trueRun(u.H, v)
			if least.L == u.L && least.N == u.N && least.W <= u.W {
				insideIs(t, 3, u, data, place, trueInside(3, u, data, v), api.OK)
			} else {
				insideIs(t, 3, u, data, place, api.Hash{}, api.ErrOutside)
			}
		}
	}
	insideIs(t, 0, at(2, 0, 0, 4), make([]byte, 128), 6, api.Hash{}, api.ErrOutside) // the top isn't in it
}

func TestInsideErrors(t *testing.T) { // P10.9, P0.1: and their order
	good := make([]byte, 96)
	for _, u := range []tile.Tile{{}, dataTile(2, 1, 3), at(0, 0, 0, 3), at(9, 0, 0, 3), at(-1, 0, 0, 3), at(2, 0, 0, 5), at(2, 0, 0, 0), at(2, 0, 0, -1), at(2, -1, 0, 3), at(2, 0, -1, 3), at(2, 25, 0, 3), at(2, 1<<62, 0, 3), at(8, 0, math.MaxInt64, 3), at(8, 0, 0, math.MaxInt), at(8, 0, 0, math.MinInt)} {
		for _, data := range [][]byte{good, nil, good[:95], make([]byte, 32*5)} {
			insideIs(t, 0, u, data, 7, api.Hash{}, api.ErrTile)
			insideIs(t, 0, u, data, -1, api.Hash{}, api.ErrTile)
		}
	}
	for _, n := range []int{0, 1, 31, 32, 64, 95, 97, 128, 8192, 1 << 20} {
		for _, place := range []int64{7, 0, -1, 1 << 62} {
			insideIs(t, 0, at(2, 0, 1, 3), make([]byte, n), place, api.Hash{}, api.ErrWidth)
		}
	}
	for _, place := range []int64{-1, 0, 5, 6, 11, 12, 13, 14, 1<<49 - 2, 1<<49 - 1, 1 << 49, 1 << 62, math.MaxInt64, math.MinInt64} {
		insideIs(t, 0, at(2, 0, 1, 3), good, place, api.Hash{}, api.ErrOutside)
	}
}
