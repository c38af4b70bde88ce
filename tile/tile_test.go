package tile_test

import (
	"math"
	"math/rand"
	"testing"

	"ledger/api"
	"ledger/tile"
)

func checks(t *testing.T, u tile.Tile, want api.Errno) {
	t.Helper()
	if e := tile.Check(u); e != want {
		t.Errorf("Check(%+v) = %d, want %d", u, int(e), int(want))
	}
}

// checksTruly: as the document's words have it.
func checksTruly(t *testing.T, u tile.Tile) {
	t.Helper()
	want := api.ErrTile
	if mayBe(u) {
		want = api.OK
	}
	checks(t, u, want)
}

func TestCheckOfTheExamples(t *testing.T) { // P10.1
	for _, u := range []tile.Tile{at(8, 0, 0, 256), at(1, 48, 0, 1), at(8, 6, 0, 1), at(8, 0, 1<<40-1, 256), dataTile(8, 0, 1)} {
		checks(t, u, api.OK)
	}
	for _, u := range []tile.Tile{{}, at(0, 0, 0, 1), at(9, 0, 0, 1), at(8, 0, 0, 0), at(8, 0, 0, 257), at(8, -1, 0, 1), at(8, 0, -1, 1), at(8, 6, 0, 2), at(8, 7, 0, 1), at(1, 49, 0, 1), at(8, 0, 1<<40, 1), {H: 8, L: 1, W: 1, Data: true}} {
		checks(t, u, api.ErrTile)
	}
}

func TestCheckAtTheEndOfEachLevel(t *testing.T) { // P10.1: the last tiles that may be, and those beside them
	for _, h := range heights {
		for l := 0; h*l <= 60; l++ {
			end := maxRecords >> (h * l) >> h
			for _, n := range []int64{-1, 0, 1, end / 2, end - 2, end - 1, end, end + 1} {
				for w := -1; w <= 1<<h+1; w++ {
					checksTruly(t, tile.Tile{H: h, L: l, N: n, W: w})
					checksTruly(t, tile.Tile{H: h, L: l, N: n, W: w, Data: true})
				}
			}
		}
	}
}

func TestCheckOfAnyNumbers(t *testing.T) { // P10.1, P0.1: no product wraps
	ints := []int{math.MinInt, -1 << 32, -256, -1, 0, 1, 2, 7, 8, 9, 48, 49, 1 << 20, 1 << 32, 1<<32 + 1, 1 << 56, 1 << 58, 1 << 60, 1<<60 + 1, 1 << 61, 1<<61 + 1, 1 << 62, math.MaxInt}
	numbers := []int64{math.MinInt64, -1 << 56, -1, 0, 1, 1 << 39, 1 << 40, 1<<48 - 1, 1 << 48, 1 << 55, 1 << 56, 1<<56 + 1, 1 << 57, 1 << 60, 1 << 62, 1<<63 - 2, math.MaxInt64}
	for _, h := range append(noHeights, heights...) {
		for _, l := range ints {
			for _, n := range numbers {
				for _, w := range []int{math.MinInt, -1, 0, 1, 2, 255, 256, 257, 1 << 32, 1<<32 + 1, math.MaxInt} {
					checksTruly(t, tile.Tile{H: h, L: l, N: n, W: w})
					checksTruly(t, tile.Tile{H: h, L: l, N: n, W: w, Data: true})
				}
			}
		}
	}
}

func ofIs(t *testing.T, h int, place int64, want tile.Tile, errno api.Errno) {
	t.Helper()
	if u, e := tile.Of(h, place); u != want || e != errno {
		t.Errorf("Of(%d, %d) = %+v, %d, want %+v, %d", h, place, u, int(e), want, int(errno))
	}
}

// ofTruly: the tile of a place as the document's words have it.
func ofTruly(t *testing.T, h int, place int64) {
	t.Helper()
	_, _, want := trueRun(h, nodeAt(place))
	ofIs(t, h, place, want, api.OK)
	checks(t, want, api.OK)
}

func TestOfTheExamples(t *testing.T) { // P10.4
	ofIs(t, 2, 9, at(2, 0, 1, 2), api.OK)
	ofIs(t, 2, 6, at(2, 1, 0, 1), api.OK)
	ofIs(t, 2, 14, at(2, 1, 0, 2), api.OK)
	for _, c := range []struct {
		h     int
		place int64
	}{{2, -1}, {0, 5}, {9, 5}, {8, 1<<49 - 1}} {
		ofIs(t, c.h, c.place, tile.Tile{}, api.ErrArg)
	}
}

func TestOfAllPlaces(t *testing.T) { // P10.4: the first ones, the last ones, and some between
	chance := rand.New(rand.NewSource(1))
	for _, h := range heights {
		for place := range int64(3000) {
			ofTruly(t, h, place)
			ofTruly(t, h, 1<<49-2-place)
			ofTruly(t, h, chance.Int63n(1<<(1+chance.Intn(48))))
		}
		for level := range 49 {
			ofTruly(t, h, placeOf(node{level, 0}))
			ofTruly(t, h, placeOf(node{level, maxRecords>>level - 1}))
			ofTruly(t, h, placeOf(node{level, (maxRecords>>level - 1) / 3}))
		}
	}
}

func TestOfWrongNumbers(t *testing.T) { // P10.4, P0.1
	for _, h := range noHeights {
		for _, place := range []int64{0, 9, -1, 1<<49 - 2, 1<<49 - 1, math.MaxInt64, math.MinInt64} {
			ofIs(t, h, place, tile.Tile{}, api.ErrArg)
		}
	}
	for _, h := range heights {
		for _, place := range []int64{-1, -2, 1<<49 - 1, 1 << 49, 1 << 62, math.MaxInt64, math.MinInt64} {
			ofIs(t, h, place, tile.Tile{}, api.ErrArg)
		}
	}
}

func widthIs(t *testing.T, h, l int, n, size int64, want int, errno api.Errno) {
	t.Helper()
	if w, e := tile.Width(h, l, n, size); w != want || e != errno {
		t.Errorf("Width(%d, %d, %d, %d) = %d, %d, want %d, %d", h, l, n, size, w, int(e), want, int(errno))
	}
}

func TestWidthOfTheExamples(t *testing.T) { // P10.5
	widthIs(t, 2, 0, 1, 7, 3, api.OK)
	widthIs(t, 2, 1, 0, 7, 1, api.OK)
	widthIs(t, 2, 2, 0, 7, 0, api.OK)
	widthIs(t, 2, 0, 0, 7, 4, api.OK)
	widthIs(t, 2, 0, 2, 7, 0, api.OK)
	widthIs(t, 8, math.MaxInt, math.MaxInt64, 1<<48, 0, api.OK)
	widthIs(t, 2, 0, 0, -1, 0, api.ErrArg)
}

func TestWidthInSmallTrees(t *testing.T) { // P10.5
	for _, h := range heights {
		for size := range int64(300) {
			for l := range 10 {
				for n := range size>>h + 3 {
					widthIs(t, h, l, n, size, trueWidth(h, l, n, size), api.OK)
				}
			}
		}
	}
}

func TestWidthInGreatTrees(t *testing.T) { // P10.5: each l and n, however great
	for _, h := range heights {
		for _, size := range greatSizes(rand.New(rand.NewSource(2))) {
			for l := range 52 {
				last := size
				if h*l < 60 {
					last = size >> (h * l) >> h
				}
				for _, n := range []int64{0, last / 2, max(0, last-1), last, last + 1, 1 << 55, 1 << 56, 1 << 62, math.MaxInt64} {
					widthIs(t, h, l, n, size, trueWidth(h, l, n, size), api.OK)
				}
			}
			for _, l := range []int{63, 64, 65, 128, 256, 1 << 32, 1 << 58, 1 << 60, 1 << 61, 1 << 62, 1<<62 + 1, math.MaxInt} {
				widthIs(t, h, l, 0, size, 0, api.OK)
				widthIs(t, h, l, math.MaxInt64, size, 0, api.OK)
			}
		}
	}
}

func TestWidthOfWrongNumbers(t *testing.T) { // P10.5, P0.1
	for _, h := range noHeights {
		widthIs(t, h, 0, 0, 7, 0, api.ErrArg)
		widthIs(t, h, math.MaxInt, math.MaxInt64, 1<<48, 0, api.ErrArg)
	}
	for _, h := range heights {
		for _, size := range []int64{-1, math.MinInt64, 1<<48 + 1, math.MaxInt64} {
			widthIs(t, h, 0, 0, size, 0, api.ErrArg)
			widthIs(t, h, 50, 1<<60, size, 0, api.ErrArg)
		}
		for _, wrong := range []int64{-1, -2, math.MinInt64} {
			widthIs(t, h, int(wrong), 0, 7, 0, api.ErrArg)
			widthIs(t, h, 0, wrong, 7, 0, api.ErrArg)
			widthIs(t, h, 60, wrong, 7, 0, api.ErrArg)
		}
	}
}
